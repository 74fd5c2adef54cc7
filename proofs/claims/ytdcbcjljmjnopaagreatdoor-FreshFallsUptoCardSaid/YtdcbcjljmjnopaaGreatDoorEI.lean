/-
  Package control's Request and Response.
  Conditions: the list holds at most 1000000000 bytes.
-/
import Derived.Test.YtdcbcjljmjnopaaGreatDoorEF
import Derived.Maps.Own
import Derived.Maps.OwnSet
import Derived.Maps.Views
import Derived.Carry
import Derived.StringKeys
namespace Go.Proofs.YtdcbcjljmjnopaaGreatDoor.Con
open Go.RowKit Go.Maps Hop

theorem keyLaw : Keyed Tryz.prog 9 := string_keyed Tryz.underlying9
/-- What the map says. -/
def Holds (mx : Bool) (D : DataW Unit) (ds : List Dir) : Prop := ∀ key, Maps.has D (.string key) = saidB ds key ∧ ∀ n, sayF mx ds key = some n → D.atKey (.string key) (.lit (.int .i64 0)) = .lit (.int .i64 (n : Int))
theorem Holds.snoc {mx : Bool} {D : DataW Unit} {ds : List Dir} (h : Holds mx D ds) (hD : IsMap D) (p : Dir) (N : Nat) (hN : N = joinO mx p.1 (numD p) (sayF mx ds p.1)) : Holds mx (D.put (.string p.1) (.lit (.int .i64 (N : Int)))) (ds ++ [p]) := fun key => by
  by_cases hk : key = p.1
  · subst hk
    refine ⟨?_, fun n hn => ?_⟩
    · rw [Maps.has_put_same hD (by simp [WideAt.IsKeyLit]), said_snoc]
      simp
    · rw [say_hit] at hn
      injection hn with hn
      rw [Maps.atKey_put_same hD (by simp [WideAt.IsKeyLit]), hN, hn]
  · refine ⟨?_, fun n hn => ?_⟩
    · rw [Maps.has_put_other (by simpa using hk), said_snoc, (h key).1]
      have : (p.1 == key) = false := by simpa using fun e => hk e.symm
      rw [this, Bool.or_false]
    · rw [say_miss mx ds p key (fun e => hk e.symm)] at hn
      rw [Maps.atKey_put_other (by simpa using hk)]
      exact (h key).2 n hn
/-- Block b is such a map. -/
def MapAt (mx : Bool) (w : World) (b n : Nat) (ds : List Dir) : Prop := ∃ D : DataW Unit, w.ownsMap Tryz.prog 9 (plainElem Tryz.prog 3) b n D ∧ Holds mx D ds
theorem MapAt.kept {mx : Bool} {S : Nat → Prop} {w w' : World} {b n : Nat} {ds : List Dir} (h : MapAt mx w b n ds) (ht : Turn S w w') (hS : ¬ S b) : MapAt mx w' b n ds := by
  obtain ⟨D, ⟨es, clock, h1, h2⟩, h3⟩ := h
  have hlt : b < w.heap.size := (Array.getElem?_eq_some_iff.1 h1).1
  exact ⟨D, ⟨es, clock, (ht.block b hlt hS).trans h1, h2⟩, h3⟩
theorem MapAt.below {mx : Bool} {w w' : World} {b n : Nat} {ds : List Dir} (h : MapAt mx w b n ds) (hb : Below w.heap.size w w') : MapAt mx w' b n ds := h.kept (Turn.of_below (S := fun _ => False) hb) (fun h => h)
theorem MapAt.lt {mx : Bool} {w : World} {b n : Nat} {ds : List Dir} (h : MapAt mx w b n ds) : b < w.heap.size := by
  obtain ⟨D, h, _⟩ := h
  exact h.lt
theorem MapAt.mono {mx : Bool} {w : World} {b n m : Nat} {ds : List Dir} (h : MapAt mx w b n ds) (hn : n ≤ m) : MapAt mx w b m ds := by
  obtain ⟨D, h1, h2⟩ := h
  exact ⟨D, h1.mono hn, h2⟩
theorem MapAt.made (mx : Bool) (w : World) : MapAt mx (w.alloc (.map #[] 0)) w.heap.size 0 [] := ⟨.map [], World.ownsMap_made w Tryz.prog 9 _, fun _ => ⟨rfl, fun _ h => by cases h⟩⟩
theorem int_zero (w : World) : (zeroValue 3).run Tryz.prog w = .ok (.int .i64 0) w := by kernel_rfl
theorem lit_wf (n : Nat) (h : n ≤ Top) : (Lit.int .i64 (n : Int)).wf = true := by
  unfold Top at h
  have e : IntKind.i64.min = -9223372036854775808 := by decide
  simp [Lit.wf]
  omega
/-- The look-up. -/
theorem MapAt.look {mx : Bool} {w : World} {b n : Nat} {ds : List Dir} (h : MapAt mx w b n ds) (L : ByteArray) (l : List UInt8) (hL : bl L = l) (hs : L.size ≤ maxLen) :
    ∃ c : Int, (Instr.lookup 71 (.map (some b)) (.string L) true).run Tryz.prog w = .ok (.tuple #[.int .i64 c, .bool (saidB ds l)]) w ∧ ∀ n, sayF mx ds l = some n → c = (n : Int) := by
  obtain ⟨D, h1, h2⟩ := h
  obtain ⟨v, ps, hr, hv⟩ := h1.look_ok keyLaw Tryz.underlying71 (int_zero w) (plainElem_int Tryz.underlying3 (by decide)) (WideMaps.keyOf_string_mk Tryz.underlying9 (s := L) hs)
  obtain ⟨c, rfl, hc, _⟩ := plainElem_int_inv Tryz.underlying3 hv
  have e : L.data.toList = l := hL
  rw [e, (h2 l).1] at hr
  refine ⟨c, hr, fun n hn => ?_⟩
  have h4 := (h2 l).2 n hn
  have h5 := congrArg Prod.fst hc
  simp only at h5
  rw [e, h4] at h5
  simp only [DataW.lit.injEq, Lit.int.injEq, true_and] at h5
  exact h5.symm
set_option maxRecDepth 100000 in
/-- The store. -/
theorem MapAt.put {mx : Bool} {w : World} {b n : Nat} {ds : List Dir} (h : MapAt mx w b n ds) (hn : n < maxLen) (p : Dir) (L : ByteArray) (hL : bl L = p.1) (hs : L.size ≤ maxLen) (N : Nat) (hN : N = joinO mx p.1 (numD p) (sayF mx ds p.1)) (hT : N ≤ Top) :
    ∃ w', (Instr.mapUpdate 71 (.map (some b)) (.string L) (.int .i64 (N : Int))).run Tryz.prog w = .ok () w' ∧ MapAt mx w' b (n + 1) (ds ++ [p]) ∧ Turn (fun k => k = b) w w' := by
  obtain ⟨D, h1, h2⟩ := h
  obtain ⟨w', hrun, o3, g3⟩ := h1.update keyLaw Tryz.underlying71 hn (WideMaps.keyOf_string_mk Tryz.underlying9 (s := L) hs) (plainElem_int Tryz.underlying3 (lit_wf N hT))
  have e : L.data.toList = p.1 := hL
  rw [e] at o3
  exact ⟨w', hrun, ⟨_, o3, h2.snoc h1.isMap p N hN⟩, Turn.of_grown g3 (fun k hk => by injection hk with hk; exact hk.symm)⟩
theorem join_top (mx : Bool) (ds : List Dir) (p : Dir) : joinO mx p.1 (numD p) (sayF mx ds p.1) ≤ Top := sayF_top mx (ds ++ [p]) p.1 _ (say_hit mx ds p)

set_option maxHeartbeats 8000000 in
set_option maxRecDepth 100000 in
theorem read_anyB {P : Nat → Prop} (mx : Bool) (g : Nat) (eg : ∀ args w, (callFunc g args).run Tryz.prog w = .ok (.enter g args) w)
    (hg : ∀ (nm : ByteArray) (a b : Nat) (W : World), Calls Tryz.prog g #[.string nm, .int .i64 (a : Int), .int .i64 (b : Int)] W fun e w' => e = .returned (.int .i64 (pickO mx (bl nm) a b : Nat)) ∧ w' = W)
    (w : World) (A : Option Addr) (ls : List Fld) (n c : Nat) (hn : ls.length = n) (h : SrcF w P A ls) (hf : Few ls ccN) :
    Calls Tryz.prog 36 #[.slice A n c, .func (.func g) #[] #[]] w fun e w' => ∃ b q, e = .returned (.map (some b)) ∧ MapAt mx w' b q (dirsF (elemF ls ccN)) ∧ w.heap.size ≤ b ∧ Below w.heap.size w w' := by
  have m0 := MapAt.made mx w
  have b0 : Below w.heap.size w (w.alloc (.map #[] 0)) := (Below.refl _ _).alloc (Nat.le_refl _) _
  obtain ⟨w0, hw0⟩ : ∃ w0, w.alloc (.map #[] 0) = w0 := ⟨_, rfl⟩
  have hmm : (Instr.makeMap 71 none).run Tryz.prog w = .ok (.map (some w.heap.size)) w0 := by rw [← hw0]; rfl
  rw [hw0] at m0 b0
  clear hw0
  obtain ⟨bm, hbm⟩ : ∃ b, w.heap.size = b := ⟨_, rfl⟩
  rw [hbm] at m0 hmm
  have CE := elem_anyB w0 A ls n c hn (h.below b0) ⟨#[99, 97, 99, 104, 101, 45, 99, 111, 110, 116, 114, 111, 108]⟩ hf
  rw [show bl ⟨#[99, 97, 99, 104, 101, 45, 99, 111, 110, 116, 114, 111, 108]⟩ = ccN from rfl] at CE
  have HEL := Lib.hid (show (elemF ls ccN).length ≤ 1000000000 from hf.elems)
  have HSL := Lib.hid (show ∀ x ∈ elemF ls ccN, x.length ≤ 1000000000 from hf.each)
  have HBM := Lib.hid hbm
  have M0 := Lib.hid m0
  have B0 := Lib.hid b0
  clear hn hf h m0 b0 hbm
  generalize elemF ls ccN = es at *
  go_enter Tryz.func36, Tryz.ntmps36
  go_wp2_with fail
  refine CE.mono ?_
  rintro e w2 ⟨v2, o2, rfl, own2, ob2, b2⟩
  have hlt := M0.out.lt
  obtain ⟨A2, c2, hv2, src2⟩ := own2.src (fun k => ¬ k = bm) (fun k hk e => by have := ob2 k hk; omega)
  subst hv2
  have H2 := Lib.hid src2
  have M2 : Hid (MapAt mx w2 bm 0 (dirsF (es.take 0))) := Lib.hid (M0.out.below b2)
  have B2 := Lib.hid (B0.out.trans (b2.mono B0.out.size))
  obtain ⟨m, hm⟩ : ∃ m, es.length = m := ⟨_, rfl⟩
  have hmx : m ≤ 1000000000 := by have := HEL.out; omega
  rw [hm] at ⊢
  have HM := Lib.hid hm
  clear hm own2 ob2 src2 b2 CE hlt M0 B0 hmm
  go_wp2_with fail
  go_loopw [18] (fun vi wr => ∃ k : Nat, vi = .int .i64 (k : Int) ∧ k ≤ m ∧ Hid (MapAt mx wr bm k (dirsF (es.take k))) ∧ Hid (Turn (fun b => b = bm) w2 wr)) (fun vi _ => m - (intOf vi).toNat)
  case atStart => exact ⟨0, rfl, Nat.zero_le _, M2, Lib.hid (Turn.refl _ _)⟩
  case round =>
    obtain ⟨k, rfl, hk, HI, HT⟩ := hrel
    by_cases hlt : k < m
    · obtain ⟨p, x, hx, hat, y, _, _⟩ := (srcs_turn H2.out HT.out (fun _ h => h)).at (c := c2) HM.out hlt (Below.refl wr.heap.size wr)
      have HX := Lib.hid hx
      have sx := HSL.out x (List.mem_of_getElem? hx)
      obtain ⟨Xs, hXs⟩ : ∃ Xs : ByteArray, Xs = ⟨x.toArray⟩ := ⟨_, rfl⟩
      have hbx : bl Xs = x := by rw [hXs, bl_mk]
      have CP := Lib.hid (fun W : World => ty_pair Xs W (by rw [← bl_length, hbx]; omega))
      rw [hbx] at CP
      unfold Pairs at CP
      rw [← hXs] at y
      clear hXs hbx sx hx
      cases hp : pairF x with
      | none =>
        rw [hp] at CP
        simp only [Option.map_none, Option.getD_none, Option.isSome_none] at CP
        have HN := Lib.hid (dirs_none es k x HX.out hp)
        clear hp
        go_wp2_with fail
        refine (CP.out _).mono ?_
        rintro e w5 ⟨rfl, b5⟩
        have HI5 := Lib.hid ((HI.out.below b5).mono (Nat.le_succ k))
        have HT5 := Lib.hid (HT.out.trans (Turn.of_below (S := fun _ => False) b5) (fun _ _ h => h.elim))
        clear b5
        go_wp2_with fail
        go_roundw
        case rel => exact ⟨k + 1, by go_num, hlt, by rw [HN.out]; exact HI5, HT5⟩
        case measure => simp [intOf]; omega
      | some q =>
        have HN := Lib.hid (dirs_some es k x q HX.out hp)
        obtain ⟨Ns, hNs⟩ : ∃ Ns : ByteArray, Ns = ⟨q.1.toArray⟩ := ⟨_, rfl⟩
        obtain ⟨Vs, hVs⟩ : ∃ Vs : ByteArray, Vs = ⟨q.2.toArray⟩ := ⟨_, rfl⟩
        rw [hp] at CP
        simp only [Option.map_some, Option.getD_some, Option.isSome_some] at CP
        rw [← hNs, ← hVs] at CP
        have HBN := Lib.hid (show bl Ns = q.1 by rw [hNs, bl_mk])
        have HSN := Lib.hid (show Ns.size ≤ maxLen by
          have := pair_len x q hp
          have := HSL.out x (List.mem_of_getElem? HX.out)
          rw [← bl_length, HBN.out]
          unfold maxLen
          omega)
        have CN := Lib.hid (fun W : World => numof_any Ns Vs W)
        rw [HBN.out, show bl Vs = q.2 from by rw [hVs, bl_mk]] at CN
        clear hp hNs hVs
        have HJ := Lib.hid (join_top mx (dirsF (es.take k)) q)
        have HNT := Lib.hid (numD_le q)
        have CG := Lib.hid (fun (a b : Nat) (W : World) => hg Ns a b W)
        rw [HBN.out] at CG
        have HIS := Lib.hid (say_is mx (dirsF (es.take k)) q.1)
        obtain ⟨nd, hnd⟩ : ∃ nd, numD (q.1, q.2) = nd := ⟨_, rfl⟩
        have HND := Lib.hid (show numD q = nd from hnd)
        rw [hnd] at CN
        clear hnd
        cases hsy : sayF mx (dirsF (es.take k)) q.1 with
        | none =>
          have HSY := Lib.hid hsy
          have HSD := Lib.hid (show saidB (dirsF (es.take k)) q.1 = false by rw [← HIS.out, hsy]; rfl)
          clear hsy CG
          go_wp2_with fail
          refine (CP.out _).mono ?_
          rintro e w5 ⟨rfl, b5⟩
          have HI5 := Lib.hid (HI.out.below b5)
          have HT5 := Lib.hid (HT.out.trans (Turn.of_below (S := fun _ => False) b5) (fun _ _ h => h.elim))
          clear b5 y
          go_wp2_with fail
          refine (CN.out _).mono ?_
          rintro e w6 ⟨rfl, b6⟩
          have HI6 := Lib.hid (HI5.out.below b6)
          have HT6 := Lib.hid (HT5.out.trans (Turn.of_below (S := fun _ => False) b6) (fun _ _ h => h.elim))
          obtain ⟨cv, hlook, _⟩ := HI6.out.look Ns q.1 HBN.out HSN.out
          rw [HSD.out] at hlook
          obtain ⟨w7, hput, m7, t7⟩ := HI6.out.put (by unfold maxLen; omega) q Ns HBN.out HSN.out nd (by rw [HSY.out, ← HND.out]; rfl) (by rw [← HND.out]; exact HNT.out)
          have M7 := Lib.hid m7
          have T7 := Lib.hid (HT6.out.trans t7 (fun _ _ h => h))
          clear b6 m7 t7 HI HI5 HI6 HT HT5 HT6
          go_wp2_with fail
          go_roundw
          case rel => exact ⟨k + 1, by go_num, hlt, by rw [HN.out]; exact M7, T7⟩
          case measure => simp [intOf]; omega
        | some o =>
          have HSY := Lib.hid hsy
          have HSD := Lib.hid (show saidB (dirsF (es.take k)) q.1 = true by rw [← HIS.out, hsy]; rfl)
          clear hsy
          go_wp2_with fail
          refine (CP.out _).mono ?_
          rintro e w5 ⟨rfl, b5⟩
          have HI5 := Lib.hid (HI.out.below b5)
          have HT5 := Lib.hid (HT.out.trans (Turn.of_below (S := fun _ => False) b5) (fun _ _ h => h.elim))
          clear b5 y
          go_wp2_with fail
          refine (CN.out _).mono ?_
          rintro e w6 ⟨rfl, b6⟩
          have HI6 := Lib.hid (HI5.out.below b6)
          have HT6 := Lib.hid (HT5.out.trans (Turn.of_below (S := fun _ => False) b6) (fun _ _ h => h.elim))
          obtain ⟨cv, hlook, hcv⟩ := HI6.out.look Ns q.1 HBN.out HSN.out
          obtain rfl := hcv o HSY.out
          rw [HSD.out] at hlook
          obtain ⟨w7, hput, m7, t7⟩ := HI6.out.put (by unfold maxLen; omega) q Ns HBN.out HSN.out (pickO mx q.1 nd o) (by rw [HSY.out, ← HND.out]; rfl) (by
            have := HJ.out
            rw [HSY.out, HND.out] at this
            exact this)
          have M7 := Lib.hid m7
          have T7 := Lib.hid (HT6.out.trans t7 (fun _ _ h => h))
          have CD := CG.out nd o w6
          clear b6 m7 t7 HI HI5 HI6 HT HT5 HT6 hcv
          go_wp2_with (go_at_fn g; go_must (refine CD.mono ?_; rintro e w9 ⟨rfl, h9⟩; subst h9))
          go_roundw
          case rel => exact ⟨k + 1, by go_num, hlt, by rw [HN.out]; exact M7, T7⟩
          case measure => simp [intOf]; omega
    · have HI2 := HI.out
      rw [List.take_of_length_le (by rw [HM.out]; omega)] at HI2
      have HIE := Lib.hid HI2
      have B3 := Lib.hid (show Below w.heap.size w wr from ⟨HT.out.os.trans B2.out.os, HT.out.tape.trans B2.out.tape, HT.out.output.trans B2.out.output, Nat.le_trans B2.out.size HT.out.size, fun k hk => (HT.out.block k (by have := B2.out.size; omega) (by have := HBM.out; omega)).trans (B2.out.block k hk)⟩)
      clear HI HI2 HT
      go_wp2_with fail
      go_ret
      exact ⟨bm, k, rfl, HIE.out, by rw [HBM.out]; exact Nat.le_refl _, B3.out⟩
theorem read_any {P : Nat → Prop} (mx : Bool) (g : Nat) (eg : ∀ args w, (callFunc g args).run Tryz.prog w = .ok (.enter g args) w)
    (hg : ∀ (nm : ByteArray) (a b : Nat) (W : World), Calls Tryz.prog g #[.string nm, .int .i64 (a : Int), .int .i64 (b : Int)] W fun e w' => e = .returned (.int .i64 (pickO mx (bl nm) a b : Nat)) ∧ w' = W)
    (w : World) (A : Option Addr) (ls : List Fld) (n c : Nat) (hn : ls.length = n) (hb : bulkF ls ≤ 1000000000) (h : SrcF w P A ls) :
    Calls Tryz.prog 36 #[.slice A n c, .func (.func g) #[] #[]] w fun e w' => ∃ b q, e = .returned (.map (some b)) ∧ MapAt mx w' b q (dirsF (elemF ls ccN)) ∧ w.heap.size ≤ b ∧ Below w.heap.size w w' :=
  read_anyB mx g eg hg w A ls n c hn h (few_bulk hb _)
end Go.Proofs.YtdcbcjljmjnopaaGreatDoor.Con

namespace Go.Proofs.YtdcbcjljmjnopaaGreatDoor.Con
open Go.RowKit Go.Maps Hop

theorem eg_has : ∀ args w, (callFunc 63 args).run Tryz.prog w = .ok (.enter 63 args) w := enters_of Tryz.func63 (by kernel_rfl) rfl
theorem eg_res : ∀ args w, (callFunc 37 args).run Tryz.prog w = .ok (.enter 37 args) w := enters_of Tryz.func37 (by kernel_rfl) rfl

theorem has1_any {mx : Bool} {b n : Nat} {ds : List Dir} (x : ByteArray) (g : Nat) (X : World) (hc : X.cell? ⟨g, 0, none⟩ = some (.map (some b))) (h : MapAt mx X b n ds) (hs : x.size ≤ maxLen) :
    Calls Tryz.prog 63 #[.string x, .pointer (some ⟨g, 0, none⟩)] X fun e w' => e = .returned (.bool (saidB ds (bl x))) ∧ Below X.heap.size X w' := by
  obtain ⟨c, hlook, _⟩ := h.look x (bl x) rfl hs
  generalize saidB ds (bl x) = q at *
  clear h
  go_enter Tryz.func63, Tryz.ntmps63
  go_wp2_with fail
  go_ret
  exact ⟨rfl, Below.refl _ _⟩
theorem has_any {P : Nat → Prop} {mx : Bool} {b n : Nat} {ds : List Dir} (w : World) (h : MapAt mx w b n ds) (A : Option Addr) (names : List (List UInt8)) (q c : Nat) (hq : names.length = q) (hmax : q ≤ 140737488351232) (hs : SrcS w P A names) (hl : ∀ x ∈ names, x.length ≤ 1000000000) :
    Calls Tryz.prog 38 #[.map (some b), .slice A q c] w fun e w' => e = .returned (.bool (names.any fun x => saidB ds x)) ∧ Below w.heap.size w w' := by
  have b0 : Below w.heap.size w (w.alloc (.cells #[.map (some b)] 71)) := (Below.refl _ _).alloc (Nat.le_refl _) _
  have i0 := Is.made w 71 [.map (some b)]
  have m0 := h.below b0
  have CH := hasS_any (S := fun _ => False) 63 #[.pointer (some ⟨w.heap.size, 0, none⟩)] eg_has (fun x => saidB ds x) (w.alloc (.cells #[.map (some b)] 71)) A names q c hq hmax (hs.below b0) (fun x hx X hX => by
    have hz : (⟨x.toArray⟩ : ByteArray).size ≤ maxLen := by
      have := hl x hx
      rw [← bl_length, bl_mk]
      unfold maxLen
      omega
    have := has1_any ⟨x.toArray⟩ w.heap.size X ((i0.kept hX (fun h => h)).cell 0) (m0.kept hX (fun h => h)) hz
    rw [bl_mk] at this
    exact this)
  have B0 := Lib.hid b0
  clear b0 i0 m0 h hs hl hq hmax
  generalize (names.any fun x => saidB ds x) = r at *
  go_enter Tryz.func38, Tryz.ntmps38
  go_wp2_with fail
  refine CH.mono ?_
  rintro e w2 ⟨rfl, b2⟩
  go_wp2_with fail
  go_ret
  exact ⟨rfl, B0.out.trans (b2.mono B0.out.size)⟩
theorem number_of {mx : Bool} {b n : Nat} {ds : List Dir} (w : World) (h : MapAt mx w b n ds) (nm : ByteArray) (hs : nm.size ≤ maxLen) :
    Calls Tryz.prog 39 #[.map (some b), .string nm] w fun e w' => e = .returned (.int .i64 (nF mx ds (bl nm))) ∧ w' = w := by
  obtain ⟨c, hlook, hc⟩ := h.look nm (bl nm) rfl hs
  have his := say_is mx ds (bl nm)
  cases hsy : sayF mx ds (bl nm) with
  | none =>
    have HF := Lib.hid (show nF mx ds (bl nm) = -1 by unfold nF; rw [hsy]; rfl)
    rw [hsy] at his
    rw [← his] at hlook
    simp only [Option.isSome_none] at hlook
    clear his hsy hc h
    go_enter Tryz.func39, Tryz.ntmps39
    go_wp2_with fail
    go_ret
    exact ⟨by rw [HF.out]; rfl, rfl⟩
  | some o =>
    have HF := Lib.hid (show nF mx ds (bl nm) = (o : Int) by unfold nF; rw [hsy]; rfl)
    rw [hsy] at his
    rw [← his] at hlook
    simp only [Option.isSome_some] at hlook
    obtain rfl := hc o hsy
    clear his hsy hc h
    go_enter Tryz.func39, Tryz.ntmps39
    go_wp2_with fail
    go_ret
    exact ⟨by rw [HF.out]; rfl, rfl⟩

end Go.Proofs.YtdcbcjljmjnopaaGreatDoor.Con

namespace Go.Proofs.YtdcbcjljmjnopaaGreatDoor.Con
open Go.RowKit Go.Maps Hop

theorem srcs_made (w : World) (ls : List (List UInt8)) : SrcS (w.alloc (.cells (strs ls).toArray 9)) (fun _ => True) (some ⟨w.heap.size, 0, none⟩) ls := fun _ => by
  have hi : Is (w.alloc (.cells (strs ls).toArray 9)) w.heap.size 9 (strs ls) := Is.made w 9 (strs ls)
  refine ⟨_, rfl, trivial, by simp, fun i l hl => ?_⟩
  rw [add_at, Nat.zero_add, hi.cell]
  simp [strs, hl]
theorem has_one {mx : Bool} {b n : Nat} {ds : List Dir} (w : World) (h : MapAt mx w b n ds) (K : List UInt8) (hK : K.length ≤ 1000000000) :
    Calls Tryz.prog 38 #[.map (some b), .slice (some ⟨w.heap.size, 0, none⟩) 1 1] (w.alloc (.cells #[.string ⟨K.toArray⟩] 9)) fun e w' => e = .returned (.bool (saidB ds K)) ∧ Below w.heap.size w w' := by
  have b0 : Below w.heap.size w (w.alloc (.cells #[.string ⟨K.toArray⟩] 9)) := (Below.refl _ _).alloc (Nat.le_refl _) _
  have hs := srcs_made w [K]
  have := has_any _ (h.below b0) (some ⟨w.heap.size, 0, none⟩) [K] 1 1 rfl (by decide) hs (fun x hx => by
    have : x = K := by simpa using hx
    rw [this]
    exact hK)
  refine this.mono ?_
  rintro e w' ⟨rfl, b'⟩
  exact ⟨by simp, b0.trans (b'.mono b0.size)⟩
theorem has_two {mx : Bool} {b n : Nat} {ds : List Dir} (w : World) (h : MapAt mx w b n ds) (K L : List UInt8) (hK : K.length ≤ 1000000000) (hL : L.length ≤ 1000000000) :
    Calls Tryz.prog 38 #[.map (some b), .slice (some ⟨w.heap.size, 0, none⟩) 2 2] (w.alloc (.cells #[.string ⟨K.toArray⟩, .string ⟨L.toArray⟩] 9)) fun e w' => e = .returned (.bool (saidB ds K || saidB ds L)) ∧ Below w.heap.size w w' := by
  have b0 : Below w.heap.size w (w.alloc (.cells #[.string ⟨K.toArray⟩, .string ⟨L.toArray⟩] 9)) := (Below.refl _ _).alloc (Nat.le_refl _) _
  have hs := srcs_made w [K, L]
  have := has_any _ (h.below b0) (some ⟨w.heap.size, 0, none⟩) [K, L] 2 2 rfl (by decide) hs (fun x hx => by
    rcases List.mem_cons.1 hx with rfl | hx
    · exact hK
    · have : x = L := by simpa using hx
      rw [this]
      exact hL)
  refine this.mono ?_
  rintro e w' ⟨rfl, b'⟩
  exact ⟨by simp, b0.trans (b'.mono b0.size)⟩

set_option maxHeartbeats 16000000 in
set_option maxRecDepth 100000 in
theorem response_anyB {P : Nat → Prop} (w : World) (A : Option Addr) (ls : List Fld) (n c : Nat) (hn : ls.length = n) (h : SrcF w P A ls) (hf : Few ls ccN) :
    Calls Tryz.prog 21 #[.slice A n c] w fun e w' => e = .returned (responseF ls).v ∧ Below w.heap.size w w' := by
  have b0 := (Below.refl w.heap.size w).alloc (Nat.le_refl _) (.cells #[.bool false, .bool false, .bool false, .bool false, .bool false, .bool false, .int .i64 0, .int .i64 0, .int .i64 0, .int .i64 0] 53)
  have i0 : Is (w.alloc (.cells #[.bool false, .bool false, .bool false, .bool false, .bool false, .bool false, .int .i64 0, .int .i64 0, .int .i64 0, .int .i64 0] 53)) w.heap.size 53 zeroL := Is.made w 53 zeroL
  have CR := read_anyB false 37 eg_res pick_res (w.alloc (.cells #[.bool false, .bool false, .bool false, .bool false, .bool false, .bool false, .int .i64 0, .int .i64 0, .int .i64 0, .int .i64 0] 53)) A ls n c hn (h.below b0) hf
  rw [show responseF ls = resD (dirsF (elemF ls ccN)) from rfl]
  have B0 := Lib.hid b0
  have I0 := Lib.hid i0
  have HN := Lib.hid hn
  have HS := Lib.hid h
  clear b0 i0 hn hf h
  generalize dirsF (elemF ls ccN) = ds at *
  go_enter Tryz.func21, Tryz.ntmps21
  go_wp2_with fail
  refine CR.mono ?_
  rintro e w1 ⟨b, q, rfl, m1, _, b1⟩
  have M1 := Lib.hid m1
  have I1 := Lib.hid (I0.out.kept (Turn.of_below (S := fun _ => False) b1) (fun h => h))
  have B1 := Lib.hid (B0.out.trans (b1.mono B0.out.size))
  clear m1 b1 CR I0 B0
  go_wp2_with fail
  refine (has_one w1 M1.out noStoreN (by decide)).mono ?_
  rintro e w2 ⟨rfl, bb⟩
  have M2 := Lib.hid (M1.out.below bb)
  have I2 := Lib.hid (I1.out.kept (Turn.of_below (S := fun _ => False) bb) (fun h => h))
  have B2 := Lib.hid (B1.out.trans (bb.mono B1.out.size))
  clear bb M1 I1 B1
  go_wp2_with fail
  refine (has_one w2 M2.out noCacheN (by decide)).mono ?_
  rintro e w3 ⟨rfl, bb⟩
  have M3 := Lib.hid (M2.out.below bb)
  have I3 := Lib.hid (I2.out.kept (Turn.of_below (S := fun _ => False) bb) (fun h => h))
  have B3 := Lib.hid (B2.out.trans (bb.mono B2.out.size))
  clear bb M2 I2 B2
  go_wp2_with fail
  refine (has_one w3 M3.out privN (by decide)).mono ?_
  rintro e w4 ⟨rfl, bb⟩
  have M4 := Lib.hid (M3.out.below bb)
  have I4 := Lib.hid (I3.out.kept (Turn.of_below (S := fun _ => False) bb) (fun h => h))
  have B4 := Lib.hid (B3.out.trans (bb.mono B3.out.size))
  clear bb M3 I3 B3
  go_wp2_with fail
  refine (has_one w4 M4.out pubN (by decide)).mono ?_
  rintro e w5 ⟨rfl, bb⟩
  have M5 := Lib.hid (M4.out.below bb)
  have I5 := Lib.hid (I4.out.kept (Turn.of_below (S := fun _ => False) bb) (fun h => h))
  have B5 := Lib.hid (B4.out.trans (bb.mono B4.out.size))
  clear bb M4 I4 B4
  go_wp2_with fail
  refine (has_two w5 M5.out mustN proxN (by decide) (by decide)).mono ?_
  rintro e w6 ⟨rfl, bb⟩
  have M6 := Lib.hid (M5.out.below bb)
  have I6 := Lib.hid (I5.out.kept (Turn.of_below (S := fun _ => False) bb) (fun h => h))
  have B6 := Lib.hid (B5.out.trans (bb.mono B5.out.size))
  clear bb M5 I5 B5
  go_wp2_with fail
  refine (number_of w6 M6.out ⟨#[109, 97, 120, 45, 97, 103, 101]⟩ (by decide)).mono ?_
  rintro e w7 ⟨rfl, hh⟩
  subst hh
  have M7 := M6
  have I7 := I6
  have B7 := B6
  clear M6 I6 B6
  go_wp2_with fail
  refine (number_of w7 M7.out ⟨#[115, 45, 109, 97, 120, 97, 103, 101]⟩ (by decide)).mono ?_
  rintro e w8 ⟨rfl, hh⟩
  subst hh
  have M8 := M7
  have I8 := I7
  have B8 := B7
  clear M7 I7 B7
  have z0 : w8.cell? ⟨w.heap.size, 0, none⟩ = some (.bool false) := I8.out.cell 0
  have f0 : w8.frozen? ⟨w.heap.size, 0, none⟩ = false := I8.out.free 0
  have z1 : w8.cell? ⟨w.heap.size, 1, none⟩ = some (.bool false) := I8.out.cell 1
  have f1 : w8.frozen? ⟨w.heap.size, 1, none⟩ = false := I8.out.free 1
  have z2 : w8.cell? ⟨w.heap.size, 2, none⟩ = some (.bool false) := I8.out.cell 2
  have f2 : w8.frozen? ⟨w.heap.size, 2, none⟩ = false := I8.out.free 2
  have z3 : w8.cell? ⟨w.heap.size, 3, none⟩ = some (.bool false) := I8.out.cell 3
  have f3 : w8.frozen? ⟨w.heap.size, 3, none⟩ = false := I8.out.free 3
  have z4 : w8.cell? ⟨w.heap.size, 4, none⟩ = some (.bool false) := I8.out.cell 4
  have f4 : w8.frozen? ⟨w.heap.size, 4, none⟩ = false := I8.out.free 4
  have z5 : w8.cell? ⟨w.heap.size, 5, none⟩ = some (.bool false) := I8.out.cell 5
  have f5 : w8.frozen? ⟨w.heap.size, 5, none⟩ = false := I8.out.free 5
  have z6 : w8.cell? ⟨w.heap.size, 6, none⟩ = some (.int .i64 0) := I8.out.cell 6
  have f6 : w8.frozen? ⟨w.heap.size, 6, none⟩ = false := I8.out.free 6
  have z7 : w8.cell? ⟨w.heap.size, 7, none⟩ = some (.int .i64 0) := I8.out.cell 7
  have f7 : w8.frozen? ⟨w.heap.size, 7, none⟩ = false := I8.out.free 7
  have z8 : w8.cell? ⟨w.heap.size, 8, none⟩ = some (.int .i64 0) := I8.out.cell 8
  have f8 : w8.frozen? ⟨w.heap.size, 8, none⟩ = false := I8.out.free 8
  have z9 : w8.cell? ⟨w.heap.size, 9, none⟩ = some (.int .i64 0) := I8.out.cell 9
  have f9 : w8.frozen? ⟨w.heap.size, 9, none⟩ = false := I8.out.free 9
  go_wp2_with fail
  refine bodyPost_ret (results_cell_row rfl _ _ w.heap.size _ _ _ _ rfl (putC_is I8.out (resD ds)) ctlStruct rfl ctlSize) rfl ?_
  exact ⟨rfl, putC_below B8.out (Nat.le_refl _) (resD ds)⟩
theorem response_any {P : Nat → Prop} (w : World) (A : Option Addr) (ls : List Fld) (n c : Nat) (hn : ls.length = n) (hb : bulkF ls ≤ 1000000000) (h : SrcF w P A ls) :
    Calls Tryz.prog 21 #[.slice A n c] w fun e w' => e = .returned (responseF ls).v ∧ Below w.heap.size w w' := response_anyB w A ls n c hn h (few_bulk hb _)

end Go.Proofs.YtdcbcjljmjnopaaGreatDoor.Con
