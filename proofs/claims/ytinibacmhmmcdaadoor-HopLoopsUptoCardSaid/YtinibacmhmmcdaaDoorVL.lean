/-
  Package hop's Strip.
  Conditions: the list holds at most 1000000000 bytes.
-/
import Derived.Test.YtinibacmhmmcdaaDoorVK
namespace Go.Proofs.YtinibacmhmmcdaaDoor.Hop
open Go.RowKit Go.Maps

theorem drew_below {B : Nat} {a w : World} (h : Below B a w) : Below B a w.drew := ⟨h.os, h.tape, h.output, h.size, h.block⟩
set_option maxHeartbeats 8000000 in
set_option maxRecDepth 100000 in
theorem strip1_any (f1 f2 : ByteArray) (g b n : Nat) (D : DataW Unit) (names : List (List UInt8)) (X : World) (hc : X.cell? ⟨g, 0, none⟩ = some (.map (some b))) (hO : X.ownsMap Tryd.prog 9 unitElem b n D) (hD : HasAll D names) (hs : f1.size ≤ 2000000000) :
    Calls Tryd.prog 31 #[.agg #[.string f1, .string f2], .pointer (some ⟨g, 0, none⟩)] X fun e w' => e = .returned (.bool (names.any fun x => lowF x == lowF (bl f1))) ∧ Below X.heap.size X w' := by
  obtain ⟨L, hL⟩ : ∃ L : ByteArray, L = ⟨(lowF (bl f1)).toArray⟩ := ⟨_, rfl⟩
  have CL := Lib.hid (fun W : World => ty_lower f1 W)
  unfold Text at CL
  rw [← hL] at CL
  have hLs : L.size ≤ maxLen := by rw [← bl_length, hL, bl_mk, lowF_length, bl_length]; unfold maxLen; omega
  have LK := Lib.hid (fun (W : World) (hB : Below X.heap.size X W) => look_any hO hD hB L (lowF (bl f1)) (by rw [hL]) hLs)
  generalize (names.any fun x => lowF x == lowF (bl f1)) = q at *
  have hb0 : Below X.heap.size X (X.alloc (.cells #[.string f1, .string f2] 32)) := (Below.refl _ X).alloc (Nat.le_refl _) _
  have z : (X.alloc (.cells #[.string f1, .string f2] 32)).cell? ⟨g, 0, none⟩ = some (.map (some b)) := (hb0.cell (Lib.lt_of_cell hc)).trans hc
  have i0 := Is.made X 32 [.string f1, .string f2]
  have ilt := i0.lt
  obtain ⟨gx, hgx⟩ : ∃ gx, X.heap.size = gx := ⟨_, rfl⟩
  have HGX := Lib.hid hgx
  rw [hgx] at i0
  have B0 := Lib.hid hb0
  clear hL hLs hO hD hs hc hb0 ilt hgx
  go_enter Tryd.func31, Tryd.ntmps31
  have hgx := HGX.out
  go_wp2_with fail
  clear hgx
  have LK1 := Lib.hid (fun (W : World) (hB : Below (X.alloc (.cells #[.string f1, .string f2] 32)).heap.size (X.alloc (.cells #[.string f1, .string f2] 32)) W) => LK.out W (B0.out.trans (hB.mono B0.out.size)))
  generalize X.alloc (.cells #[.string f1, .string f2] 32) = X1 at *
  have y0 : X1.cell? ⟨gx, 0, none⟩ = some (.string f1) := i0.cell 0
  have hgl : g < X1.heap.size := Lib.lt_of_cell z
  have hgxl : gx < X1.heap.size := i0.lt
  have e0 := Lib.hid (Below.refl X1.heap.size X1)
  have e1 := Lib.hid ((Below.refl X1.heap.size X1).alloc (Nat.le_refl _) (.cells #[] 44))
  have za : (X1.alloc (.cells #[] 44)).cell? ⟨g, 0, none⟩ = some (.map (some b)) := (e1.out.cell hgl).trans z
  have ya : (X1.alloc (.cells #[] 44)).cell? ⟨gx, 0, none⟩ = some (.string f1) := (e1.out.cell hgxl).trans y0
  have d0 := Lib.hid (drew_below e0.out)
  have d1 := Lib.hid (drew_below e1.out)
  clear LK i0
  go_region_held3 (fun w' => w'.cell? ⟨g, 0, none⟩ = some (.map (some b)) ∧ w'.cell? ⟨gx, 0, none⟩ = some (.string f1)) (first | (with_reducible exact ⟨z, y0⟩) | (with_reducible exact ⟨za, ya⟩) | (with_reducible exact ⟨z5, y5⟩) | (with_reducible exact ⟨z6, y6⟩) | go_keep)
    (first
      | (go_at_call 32
         (first | (with_reducible refine (CL.out X1.drew).mono ?_) | (with_reducible refine (CL.out (X1.alloc (.cells #[] 44)).drew).mono ?_))
         rintro e w5 ⟨rfl, b5⟩
         have B5 : Hid (Below X1.heap.size X1 w5) := by
           first
             | exact Lib.hid (d0.out.trans (b5.mono d0.out.size))
             | exact Lib.hid (d1.out.trans (b5.mono d1.out.size))
         have z5 : w5.cell? ⟨g, 0, none⟩ = some (.map (some b)) := (B5.out.cell hgl).trans z
         have y5 : w5.cell? ⟨gx, 0, none⟩ = some (.string f1) := (B5.out.cell hgxl).trans y0
         have B6 : Hid (Below X1.heap.size X1 (w5.alloc (.cells #[] 44))) := Lib.hid (B5.out.alloc B5.out.size _)
         have z6 : (w5.alloc (.cells #[] 44)).cell? ⟨g, 0, none⟩ = some (.map (some b)) := (B6.out.cell hgl).trans z
         have y6 : (w5.alloc (.cells #[] 44)).cell? ⟨gx, 0, none⟩ = some (.string f1) := (B6.out.cell hgxl).trans y0
         have l5 := LK1.out w5 B5.out
         have l6 := LK1.out (w5.alloc (.cells #[] 44)) B6.out
         clear b5))
  all_goals
    go_wp2_with fail
    go_ret
    first
      | exact ⟨rfl, B0.out.trans (B6.out.mono B0.out.size)⟩
      | exact ⟨rfl, B0.out.trans (B5.out.mono B0.out.size)⟩

theorem owns_turn {S : Nat → Prop} {w w' : World} {b n : Nat} {D : DataW Unit} (h : w.ownsMap Tryd.prog 9 unitElem b n D) (ht : Turn S w w') (hS : ¬ S b) : w'.ownsMap Tryd.prog 9 unitElem b n D := by
  obtain ⟨es, clock, h1, h2⟩ := h
  have hlt : b < w.heap.size := (Array.getElem?_eq_some_iff.1 h1).1
  exact ⟨es, clock, (ht.block b hlt hS).trans h1, h2⟩
theorem gone_any (ls : List Fld) (f : Fld) : ((saidF ls ++ hopN).any fun x => lowF x == lowF f.1) = goneF (namesF ls) f := by
  unfold goneF namesF
  rw [List.any_append, List.any_append, Bool.or_comm]
  have e : (fun x : List UInt8 => lowF x == lowF f.1) = fun x => lowF f.1 == lowF x := funext fun x => Bool.beq_comm
  rw [e]
def hopV : Array Value := #[.string ⟨#[99, 111, 110, 110, 101, 99, 116, 105, 111, 110]⟩, .string ⟨#[107, 101, 101, 112, 45, 97, 108, 105, 118, 101]⟩, .string ⟨#[112, 114, 111, 120, 121, 45, 99, 111, 110, 110, 101, 99, 116, 105, 111, 110]⟩, .string ⟨#[112, 114, 111, 120, 121, 45, 97, 117, 116, 104, 101, 110, 116, 105, 99, 97, 116, 101]⟩, .string ⟨#[112, 114, 111, 120, 121, 45, 97, 117, 116, 104, 111, 114, 105, 122, 97, 116, 105, 111, 110]⟩, .string ⟨#[116, 101]⟩, .string ⟨#[116, 114, 97, 105, 108, 101, 114]⟩, .string ⟨#[116, 114, 97, 110, 115, 102, 101, 114, 45, 101, 110, 99, 111, 100, 105, 110, 103]⟩, .string ⟨#[117, 112, 103, 114, 97, 100, 101]⟩]
theorem hopV_is : (strs hopN).toArray = hopV := rfl

set_option maxHeartbeats 8000000 in
set_option maxRecDepth 100000 in
theorem strip_any {P : Nat → Prop} (w : World) (A : Option Addr) (ls : List Fld) (n c : Nat) (hn : ls.length = n) (hb : bulkF ls ≤ 1000000000) (h : SrcF w P A ls) :
    Calls Tryd.prog 8 #[.slice A n c] w (GotF (stripF ls) w) := by
  have CE := elem_any w A ls n c hn hb h ⟨#[99, 111, 110, 110, 101, 99, 116, 105, 111, 110]⟩
  rw [show bl ⟨#[99, 111, 110, 110, 101, 99, 116, 105, 111, 110]⟩ = conN from rfl] at CE
  have HEL := Lib.hid (show (elemF ls conN).length ≤ 1000000000 by have := elem_bulk conN ls; omega)
  have HSL := Lib.hid (show (saidF ls).length ≤ 1000000000 by have := said_len ls; omega)
  have HSP := Lib.hid (show ∀ x ∈ saidF ls ++ hopN, x.length ≤ 2000000000 by
    intro x hx
    rcases List.mem_append.1 hx with h | h
    · have := said_sub ls x h; omega
    · have := hop_part x h; omega)
  have HLL := Lib.hid (show ls.length ≤ 1000000000 by have := bulk_len ls; omega)
  have HFP := Lib.hid (show ∀ f ∈ ls, f.1.length ≤ 1000000000 from fun f hf => by have := bulk_mem hf; omega)
  have CC := Lib.hid (fun (W : World) (hB : Below w.heap.size w W) => copy_any W A ls n c hn hb (h.below hB))
  clear hn hb h
  go_enter Tryd.func8, Tryd.ntmps8
  go_wp2_with fail
  refine CE.mono ?_
  rintro e w1 ⟨v1, o1, rfl, own1, ob1, b1⟩
  have CD := delS_any 16 #[] eg_forall forF w1 v1 o1 (elemF ls conN) own1 (by have := HEL.out; omega) (fun x _ X _ => by
    have := forall_any ⟨x.toArray⟩ X
    rw [bl_mk] at this
    exact this)
  rw [show (elemF ls conN).filter (keepB forF) = saidF ls from rfl] at CD
  clear own1 CE
  go_wp2_with fail
  refine CD.mono ?_
  rintro e w2 ⟨v2, rfl, own2, t2⟩
  have B2 := Lib.hid (b1.trans (⟨t2.os, t2.tape, t2.output, t2.size, fun k hk => t2.block k (by have := b1.size; omega) (fun e => by have := ob1 k e; omega)⟩ : Below w.heap.size w1 w2))
  have hs9 := srcs_made w2 hopN
  rw [hopV_is] at hs9
  have ba := (Below.refl w2.heap.size w2).alloc (Nat.le_refl _) (.cells hopV 9)
  have O2 := own2.kept (Turn.of_below (S := fun _ => False) ba) (fun _ _ h => h)
  obtain ⟨v3, w3, o3, hrun, own3, t3, ho3⟩ := run_append_strs (w2.alloc (.cells hopV 9)) v2 o1 (saidF ls) hopN O2 (some ⟨w2.heap.size, 0, none⟩) 9 9 rfl hs9 (by have := HSL.out; rw [show hopN.length = 9 from rfl]; omega)
  have TT := own_turn (B2.out.trans (ba.mono B2.out.size)) ob1 t3 ho3
  obtain ⟨A3, c3, hv3, src3⟩ := own3.src (fun _ => True) (fun _ _ => trivial)
  subst hv3
  obtain ⟨q3, hq3⟩ : ∃ q3, (saidF ls ++ hopN).length = q3 := ⟨_, rfl⟩
  rw [hq3] at hrun
  have HQ3 := Lib.hid hq3
  have CS := Lib.hid (set_any w3 A3 (saidF ls ++ hopN) q3 c3 hq3 (by rw [← hq3, List.length_append, show hopN.length = 9 from rfl]; have := HSL.out; omega) HSP.out src3)
  have B3 := Lib.hid TT.1
  unfold hopV at hrun
  have HRU := Lib.hid hrun
  clear hrun own3 t3 ho3 TT O2 ba hs9 own2 t2 b1 CD ob1 src3 hq3
  go_wp2_with (at_builtin; refine append_by rfl (.tmp 8) (.tmp 9) 25 rfl _ _ (.slice A3 q3 c3) w3 rfl rfl HRU.out ?_)
  refine CS.out.mono ?_
  rintro e w4 ⟨bm, nm, D, rfl, om, hD, hbm, b4⟩
  have B4 := Lib.hid (B3.out.trans (b4.mono B3.out.size))
  have OM := Lib.hid om
  have HD := Lib.hid hD
  have b5 := B4.out.alloc B4.out.size (.cells #[.map (some bm)] 41)
  have OA := Lib.hid (owns_below om ((Below.refl w4.heap.size w4).alloc (Nat.le_refl _) (.cells #[.map (some bm)] 41)))
  have IA := Lib.hid (Is.made w4 41 [.map (some bm)])
  have BA := Lib.hid b5
  have HWS := Lib.hid (show (w4.alloc (.cells #[.map (some bm)] 41)).heap.size = w4.heap.size + 1 by simp)
  have HBM := Lib.hid om.lt
  clear om hD b4 hbm b5
  go_wp2_with fail
  refine (CC.out _ BA.out).mono ?_
  rintro e w6 ⟨v6, o6, rfl, own6, ob6, b6⟩
  have CF := delF_any 31 #[.pointer (some ⟨w4.heap.size, 0, none⟩)] eg_strip (goneF (namesF ls)) w6 v6 o6 ls own6 (by have := HLL.out; omega) (fun x hx X hX => by
    have hne : ∀ b, o6 = some b → w4.heap.size + 1 ≤ b := fun b hb => by have := ob6 b hb; rw [HWS.out] at this; exact this
    have i6 := (IA.out.kept (Turn.of_below (S := fun _ => False) b6) (fun h => h)).kept hX (fun hh => by have := hne _ hh; omega)
    have o7 := owns_turn (owns_below OA.out b6) hX (fun hh => by have := hne _ hh; have := HBM.out; omega)
    have := strip1_any ⟨x.1.toArray⟩ ⟨x.2.toArray⟩ w4.heap.size bm nm D (saidF ls ++ hopN) X (i6.cell 0) o7 HD.out (by rw [← bl_length, bl_mk]; have := HFP.out x hx; omega)
    rw [bl_mk, gone_any ls x] at this
    exact this)
  rw [show ls.filter (keepB (goneF (namesF ls))) = stripF ls from rfl] at CF
  have B6 := Lib.hid (BA.out.trans (b6.mono BA.out.size))
  have OB6 := Lib.hid (fun b hb => Nat.le_trans BA.out.size (ob6 b hb))
  clear own6 b6 ob6
  go_wp2_with fail
  refine CF.mono ?_
  rintro e w7 ⟨v7, rfl, own7, t7⟩
  go_wp2_with fail
  go_ret
  exact ⟨v7, o6, rfl, own7, OB6.out, B6.out.trans ⟨t7.os, t7.tape, t7.output, t7.size, fun k hk => t7.block k (by have := B6.out.size; omega) (fun e => by have := OB6.out k e; omega)⟩⟩
end Go.Proofs.YtinibacmhmmcdaaDoor.Hop
