/-
  The law AclKnown, walked.
  Conditions: Go's table of powers of ten is as its text lays it.
-/
import Derived.Test.YtcmnnidjamdmeaaDoorAL
import Derived.Deep.RegionHeld3
import Derived.Great.BuildSlice
import Derived.Great.Walk
import Derived.Deep.WholeRow
namespace Go.Proofs.YtcmnnidjamdmeaaDoor.Acl
open Go.RowKit

def okR : RuE := ⟨false, ⟨#[97]⟩, 1, 65535, none, 0, 0, []⟩
/-- A rule of a Host alone, of ports. -/
def ofR (h : ByteArray) (lo hi : Int) : RuE := ⟨false, h, lo, hi, none, 0, 0, []⟩
/-- The rules that may not be. -/
def badL (g : Nat) : List RuE := [ofR ⟨#[]⟩ 1 1, ofR ⟨#[65]⟩ 1 1, ofR ⟨#[46]⟩ 1 1, ofR ⟨#[97, 42]⟩ 1 1, ofR ⟨#[97, 95]⟩ 1 1, ofR ⟨#[97]⟩ 0 1, ofR ⟨#[97]⟩ 1 65536, ofR ⟨#[97]⟩ 2 1,
  ⟨false, ⟨#[97]⟩, 1, 1, some ⟨g, 0, none⟩, 1, 1, [[]]⟩, ⟨false, ⟨#[97]⟩, 1, 1, some ⟨g + 1, 0, none⟩, 1, 1, [[71, 32, 84]]⟩, ⟨false, ⟨#[97]⟩, 1, 1, some ⟨g + 1 + 1, 0, none⟩, 9, 9, List.replicate 9 []⟩]
def badA (g : Nat) : Array Value := (rus (badL g)).toArray
def zero55 : Array Value := ((List.replicate 11 [Value.bool false, .string ⟨#[]⟩, .int .i64 0, .int .i64 0, .slice none 0 0]).flatten).toArray
theorem bad_no (g : Nat) : ∀ r ∈ badL g, mayF r = false := by
  intro r hr
  simp only [badL, List.mem_cons, List.not_mem_nil, or_false] at hr
  rcases hr with rfl | rfl | rfl | rfl | rfl | rfl | rfl | rfl | rfl | rfl | rfl
  all_goals first | rfl | (show mayF (ofR _ _ _) = false; decide +kernel)
/-- What is laid ahead of the first loop. -/
structure BadW (g0 g : Nat) (w : World) : Prop where
  o : Is w g0 25 okR.cells
  a : Is w g 9 [strV []]
  b : Is w (g + 1) 9 [strV [71, 32, 84]]
  c : Is w (g + 1 + 1) 9 (strs (List.replicate 9 []))
  d : Is w (g + 1 + 1 + 1) 33 (rus (badL g))
theorem BadW.below {g0 g : Nat} {w w' : World} (h : BadW g0 g w) (hb : Below w.heap.size w w') : BadW g0 g w' := ⟨is_below h.o hb, is_below h.a hb, is_below h.b hb, is_below h.c hb, is_below h.d hb⟩
theorem BadW.oks {g0 g : Nat} {w : World} (h : BadW g0 g w) : ∀ r ∈ badL g, r.Ok w := by
  intro r hr
  simp only [badL, List.mem_cons, List.not_mem_nil, or_false] at hr
  rcases hr with rfl | rfl | rfl | rfl | rfl | rfl | rfl | rfl | rfl | rfl | rfl
  all_goals first
    | exact ok_none _ _ _ _ _
    | exact ⟨rfl, (show 1 ≤ _ by decide), srcs_is (ls := [[]]) h.a⟩
    | exact ⟨rfl, (show 1 ≤ _ by decide), srcs_is (ls := [[71, 32, 84]]) h.b⟩
    | exact ⟨rfl, (show 9 ≤ _ by decide), srcs_is (ls := List.replicate 9 []) h.c⟩
theorem arrInfo : (Tryd.prog.info? 25).map (·.size) = some 5 := by kernel_rfl
theorem run_at_arr (g k : Nat) (hk : k < 11) (W : World) : (Instr.indexAt 33 (.pointer (some ⟨g, 0, none⟩)) (.int .i64 (k : Int))).run Tryd.prog W = .ok (.pointer (some ⟨g, k * 5, none⟩)) W := by
  obtain ⟨i, hi, hs⟩ := Option.map_eq_some_iff.1 arrInfo
  simp [Instr.indexAt, run_underlying Tryd.underlying33, asIntOf, hk, sizeOf, typeInfo, hi, hs, Instr.sureAddr, add_at]
def szOf : Value → Nat
  | .string s => s.size
  | _ => 0
def eightM : List (List UInt8) := [[65], [66], [67], [68], [69], [70], [71], [72]]
def eightR (g : Nat) : RuE := ⟨false, ⟨#[42]⟩, 80, 80, some ⟨g, 0, none⟩, 8, 8, eightM⟩
/-- What is laid ahead of the last loop. -/
structure KnowW (g0 g : Nat) (T1 T2 : ByteArray) (w : World) : Prop where
  o : Is w g0 25 okR.cells
  a : Is w g 25 (ofR T1 1 1).cells
  b : Is w (g + 1) 25 (ofR T2 1 1).cells
  c : Is w (g + 1 + 1) 9 (strs eightM)
  d : Is w (g + 1 + 1 + 1) 25 (eightR (g + 1 + 1)).cells
theorem KnowW.below {g0 g : Nat} {T1 T2 : ByteArray} {w w' : World} (h : KnowW g0 g T1 T2 w) (hb : Below w.heap.size w w') : KnowW g0 g T1 T2 w' := ⟨is_below h.o hb, is_below h.a hb, is_below h.b hb, is_below h.c hb, is_below h.d hb⟩
theorem KnowW.eight {g0 g : Nat} {T1 T2 : ByteArray} {w : World} (h : KnowW g0 g T1 T2 w) : (eightR (g + 1 + 1)).Ok w := ⟨rfl, (show 8 ≤ _ by decide), srcs_is h.c⟩
theorem may_of (h : ByteArray) (lo hi : Int) : mayF (ofR h lo hi) = (hostF (bl h) && (decide (1 ≤ lo) && (decide (lo ≤ hi) && decide (hi ≤ 65535)) && true)) := rfl
theorem may_ok : mayF okR = true := by decide +kernel
theorem may_eight (g : Nat) : mayF (eightR g) = true := by
  rw [show mayF (eightR g) = (hostF [42] && (true && eightM.all tokF)) from rfl]
  decide +kernel
theorem all_reps (k : Nat) : allF (List.replicate k okR) = decide (k ≤ 16) := by
  unfold allF
  rw [List.length_replicate, List.all_eq_true.2 (fun x hx => by rw [List.eq_of_mem_replicate hx]; exact may_ok), Bool.and_true]
theorem of_may (h : ByteArray) (lo hi : Int) (b : Bool) (W : World) (hp : PowTab W) (hb : mayF (ofR h lo hi) = b) :
    Calls Tryd.prog 8 #[.agg #[.bool false, .string h, .int .i64 lo, .int .i64 hi, .slice none 0 0]] W fun e w' => e = .returned (.bool b) ∧ Below W.heap.size W w' := by
  have C := may_any (ofR h lo hi) W (ok_none _ _ _ _ _) hp
  rw [hb] at C
  exact C
theorem eight_may (g : Nat) (W : World) (hp : PowTab W) (hk : (eightR g).Ok W) :
    Calls Tryd.prog 8 #[.agg #[.bool false, .string ⟨#[42]⟩, .int .i64 80, .int .i64 80, .slice (some ⟨g, 0, none⟩) 8 8]] W fun e w' => e = .returned (.bool true) ∧ Below W.heap.size W w' := by
  have C := may_any (eightR g) W hk hp
  rw [may_eight] at C
  exact C
theorem eight_match (g : Nat) (c : ByteArray) (b : Bool) (W : World) (hk : (eightR g).Ok W) (hb : matchF [] 80 (bl c) (eightR g) = b) :
    Calls Tryd.prog 12 #[.agg #[.bool false, .string ⟨#[42]⟩, .int .i64 80, .int .i64 80, .slice (some ⟨g, 0, none⟩) 8 8], .string ⟨#[]⟩, .int .i64 80, .string c] W fun e w' => e = .returned (.bool b) ∧ Below W.heap.size W w' := by
  have C := matches_any (eightR g) ⟨#[]⟩ 80 c W hk (by decide)
  rw [show bl ⟨#[]⟩ = ([] : List UInt8) from rfl, hb] at C
  exact C
theorem nil_all (W : World) (hp : PowTab W) : Calls Tryd.prog 10 #[.slice none 0 0] W fun e w' => e = .returned (.bool true) ∧ Below W.heap.size W w' := by
  have C := all_any (P := fun _ => True) W none [] 0 0 rfl (by decide) (fun h => absurd h (by simp)) (fun _ h => by cases h) hp
  exact C
theorem nil_admits (h m : ByteArray) (p : Int) (W : World) (hz : h.size ≤ 100) : Calls Tryd.prog 14 #[.slice none 0 0, .string h, .int .i64 p, .string m] W fun e w' => e = .returned (.bool false) ∧ Below W.heap.size W w' := by
  have C := admits_any (P := fun _ => True) W none [] 0 0 rfl (by decide) (fun h => absurd h (by simp)) (fun _ h => by cases h) h p m (by omega)
  exact C
set_option maxHeartbeats 8000000 in
set_option maxRecDepth 100000 in
theorem known_law (w : World) (hp : PowTab w) :
    Calls Tryd.prog 7 #[] w fun e w' => e = .returned (.bool true) ∧ Below w.heap.size w w' := by
  have HP := Lib.hid hp
  have hmk : ∀ W : World, (Instr.makeSlice 23 (.int .i64 9) (.int .i64 9)).run Tryd.prog W = .ok (.slice (some ⟨W.heap.size, 0, none⟩) 9 9) (W.alloc (.cells (strs (List.replicate 9 [])).toArray 9)) := fun W => by
    have h := run_make_row' (P := Tryd.prog) 23 9 (.string ⟨#[]⟩) 16 Tryd.underlying23 strInfo rfl .i64 .i64 9 (by decide) (by decide) W
    rw [show madeCells #[Value.string ⟨#[]⟩] 9 = (strs (List.replicate 9 [])).toArray by rw [← Array.toArray_toList (xs := madeCells #[Value.string ⟨#[]⟩] 9), toList_madeCells_one]; rfl] at h
    exact h
  have hal : ∀ (f : Operand → Value) (o : Oper), o.op = .alloc 33 → ∀ W : World, (execOp f o).run Tryd.prog W = .ok (.value (.pointer (some ⟨W.heap.size, 0, none⟩))) (W.alloc (.cells zero55 33)) := by
    intro f o ho W
    unfold execOp
    rw [ho]
    kernel_rfl
  have HAL := Lib.hid hal
  clear hp hal
  go_enter Tryd.func7, Tryd.ntmps7
  go_upto_region 2 with fail
  have I0 := Lib.hid (Is.made w 25 okR.cells)
  have B0 : Hid (Below w.heap.size w (w.alloc (.cells #[.bool false, .string ⟨#[97]⟩, .int .i64 1, .int .i64 65535, .slice none 0 0] 25))) := Lib.hid ((Below.refl _ _).alloc (Nat.le_refl _) _)
  have hg1 : (w.alloc (.cells #[.bool false, .string ⟨#[97]⟩, .int .i64 1, .int .i64 65535, .slice none 0 0] 25)).heap.size = w.heap.size + 1 := by simp
  have I0' : Hid (Is (w.alloc (.cells #[.bool false, .string ⟨#[97]⟩, .int .i64 1, .int .i64 65535, .slice none 0 0] 25)) w.heap.size 25 okR.cells) := I0
  clear I0
  generalize w.alloc (.cells #[.bool false, .string ⟨#[97]⟩, .int .i64 1, .int .i64 65535, .slice none 0 0] 25) = w1 at *
  clear hg1
  go_wp2_with (first
    | (refine wpList_buildTo rfl _ _ rfl (some 25) rfl (badA w1.heap.size) (by as_aux_lemma => kernel_rfl) ?_)
    | (refine Great.wpList_allocTo rfl (some 2) rfl _ (.cells zero55 33) (HAL.out _ _ rfl _) ?_; refine wpList_store_rowTo rfl _ (.tmp 2) (.tmp 25) rfl rfl _ (badA w1.heap.size) rfl rfl _ _ (heap_alloc_last _ _) (by as_aux_lemma => kernel_rfl) (by as_aux_lemma => kernel_rfl) (by as_aux_lemma => kernel_rfl) ?_; rw [World.setRow_alloc_new]))
  have hK : BadW w.heap.size w1.heap.size ((((w1.alloc (.cells #[.string ⟨#[]⟩] 9)).alloc (.cells #[.string ⟨#[71, 32, 84]⟩] 9)).alloc (.cells (strs [[], [], [], [], [], [], [], [], []]).toArray 9)).alloc (.cells (badA w1.heap.size) 33)) := by
    have i1 := Is.made w1 9 [strV []]
    have i2 := Is.made (w1.alloc (.cells [strV []].toArray 9)) 9 [strV [71, 32, 84]]
    have i3 := Is.made ((w1.alloc (.cells [strV []].toArray 9)).alloc (.cells [strV [71, 32, 84]].toArray 9)) 9 (strs (List.replicate 9 []))
    have i4 := Is.made (((w1.alloc (.cells [strV []].toArray 9)).alloc (.cells [strV [71, 32, 84]].toArray 9)).alloc (.cells (strs (List.replicate 9 [])).toArray 9)) 33 (rus (badL w1.heap.size))
    simp only [World.alloc, Array.size_push] at i2 i3 i4
    exact ⟨(((I0'.out.alloc _).alloc _).alloc _).alloc _, ((i1.alloc _).alloc _).alloc _, (Is.alloc i2 _).alloc _, Is.alloc i3 _, i4⟩
  have hb2 : Below w1.heap.size w1 ((((w1.alloc (.cells #[.string ⟨#[]⟩] 9)).alloc (.cells #[.string ⟨#[71, 32, 84]⟩] 9)).alloc (.cells (strs [[], [], [], [], [], [], [], [], []]).toArray 9)).alloc (.cells (badA w1.heap.size) 33)) := ((((Below.refl _ w1).alloc (Nat.le_refl _) _).alloc (by simp) _).alloc (by simp; omega) _).alloc (by simp; omega) _
  have K2 := Lib.hid hK
  have B2 := Lib.hid (B0.out.trans (hb2.mono B0.out.size))
  generalize ((((w1.alloc (.cells #[.string ⟨#[]⟩] 9)).alloc (.cells #[.string ⟨#[71, 32, 84]⟩] 9)).alloc (.cells (strs [[], [], [], [], [], [], [], [], []]).toArray 9)).alloc (.cells (badA w1.heap.size) 33)) = w2 at *
  generalize w1.heap.size = g at *
  clear hK hb2 I0' B0 hmk HAL
  go_wp2_with fail
  go_loopw [3] (fun vi wr => ∃ k : Nat, vi = .int .i64 (k : Int) ∧ k ≤ 11 ∧ Hid (Below w2.heap.size w2 wr)) (fun vi _ => 11 - (intOf vi).toNat)
  case atStart => exact ⟨0, rfl, Nat.zero_le _, Lib.hid (Below.refl _ _)⟩
  case round =>
    obtain ⟨k, rfl, hk, HB⟩ := hrel
    by_cases hlt : k < 11
    · obtain ⟨r, hr⟩ : ∃ r, (badL g)[k]? = some r := ⟨(badL g)[k]'hlt, List.getElem?_eq_getElem _⟩
      have hin := List.mem_of_getElem? hr
      have KR := Lib.hid (K2.out.below HB.out)
      have hat := Lib.hid (run_at_arr (g + 1 + 1 + 1) k hlt)
      have hcell : ∀ W : World, BadW w.heap.size g W → (W.cell? ⟨g + 1 + 1 + 1, k * 5, none⟩ = some (.bool r.al) ∧ W.cell? ⟨g + 1 + 1 + 1, k * 5 + 1, none⟩ = some (.string r.h) ∧ W.cell? ⟨g + 1 + 1 + 1, k * 5 + 2, none⟩ = some (.int .i64 r.lo) ∧ W.cell? ⟨g + 1 + 1 + 1, k * 5 + 3, none⟩ = some (.int .i64 r.hi) ∧ W.cell? ⟨g + 1 + 1 + 1, k * 5 + 4, none⟩ = some (.slice r.A r.n r.c)) ∧ W.cell? ⟨w.heap.size, 0, none⟩ = some (.bool false) ∧ W.cell? ⟨w.heap.size, 1, none⟩ = some (.string ⟨#[97]⟩) ∧ W.cell? ⟨w.heap.size, 2, none⟩ = some (.int .i64 1) ∧ W.cell? ⟨w.heap.size, 3, none⟩ = some (.int .i64 65535) ∧ W.cell? ⟨w.heap.size, 4, none⟩ = some (.slice none 0 0) := fun W hW => by
        have q := rus_get (badL g) k r hr
        exact ⟨⟨(hW.d.cell _).trans (q 0 _ rfl), (hW.d.cell _).trans (q 1 _ rfl), (hW.d.cell _).trans (q 2 _ rfl), (hW.d.cell _).trans (q 3 _ rfl), (hW.d.cell _).trans (q 4 _ rfl)⟩, cells5 hW.o⟩
      have HC := Lib.hid hcell
      have BD : Hid (Below w2.heap.size w2 wr.drew) := Lib.hid (below_drew HB.out)
      have KD := Lib.hid (K2.out.below BD.out)
      have BW := Lib.hid (B2.out.trans (BD.out.mono B2.out.size))
      have C1 := may_any r wr.drew (KD.out.oks r hin) (HP.out.below BW.out)
      rw [bad_no g r hin] at C1
      have C1 := Lib.hid C1
      have CA := Lib.hid (fun (v : World) (hv : Below wr.drew.heap.size wr.drew v) => by
        have bv : Below w2.heap.size w2 v := BD.out.trans (hv.mono BD.out.size)
        have ba : Below v.heap.size v (v.alloc (.cells #[.bool false, .string ⟨#[97]⟩, .int .i64 1, .int .i64 65535, .slice none 0 0, .bool r.al, .string r.h, .int .i64 r.lo, .int .i64 r.hi, .slice r.A r.n r.c] 25)) := (Below.refl _ v).alloc (Nat.le_refl _) _
        have C := all_any (v.alloc (.cells #[.bool false, .string ⟨#[97]⟩, .int .i64 1, .int .i64 65535, .slice none 0 0, .bool r.al, .string r.h, .int .i64 r.lo, .int .i64 r.hi, .slice r.A r.n r.c] 25)) (some ⟨v.heap.size, 0, none⟩) [okR, r] 2 2 rfl (by decide) (srcu_row (Is.made v 25 (rus [okR, r]))) (fun x hx => by
          simp only [List.mem_cons, List.not_mem_nil, or_false] at hx
          rcases hx with rfl | rfl
          · exact ok_none _ _ _ _ _
          · exact ((K2.out.below bv).below ba).oks x hin) (HP.out.below ((B2.out.trans (bv.mono B2.out.size)).trans (ba.mono (B2.out.trans (bv.mono B2.out.size)).size)))
        rw [show allF [okR, r] = (true && (mayF okR && (mayF r && true))) from rfl, bad_no g r hin, Bool.false_and, Bool.and_false, Bool.and_false] at C
        exact C)
      have at1 := hat.out
      have x0 := HC.out wr KR.out
      clear hr hin hcell
      go_wp2_with fail
      go_region_held3 (fun w' => (w'.cell? ⟨g + 1 + 1 + 1, k * 5, none⟩ = some (.bool r.al) ∧ w'.cell? ⟨g + 1 + 1 + 1, k * 5 + 1, none⟩ = some (.string r.h) ∧ w'.cell? ⟨g + 1 + 1 + 1, k * 5 + 2, none⟩ = some (.int .i64 r.lo) ∧ w'.cell? ⟨g + 1 + 1 + 1, k * 5 + 3, none⟩ = some (.int .i64 r.hi) ∧ w'.cell? ⟨g + 1 + 1 + 1, k * 5 + 4, none⟩ = some (.slice r.A r.n r.c)) ∧ w'.cell? ⟨w.heap.size, 0, none⟩ = some (.bool false) ∧ w'.cell? ⟨w.heap.size, 1, none⟩ = some (.string ⟨#[97]⟩) ∧ w'.cell? ⟨w.heap.size, 2, none⟩ = some (.int .i64 1) ∧ w'.cell? ⟨w.heap.size, 3, none⟩ = some (.int .i64 65535) ∧ w'.cell? ⟨w.heap.size, 4, none⟩ = some (.slice none 0 0)) (first | exact x0 | exact x1 | exact x2 | exact x3 | go_keep)
        (first | (go_at_call 8; (with_reducible refine C1.out.mono ?_); rintro e v1 ⟨rfl, b1⟩; have D1 := Lib.hid (BD.out.trans (b1.mono BD.out.size)); have x1 := HC.out v1 (K2.out.below D1.out); have CA1 := Lib.hid (CA.out v1 b1); have E1 := Lib.hid ((Below.refl v1.heap.size v1).alloc (Nat.le_refl _) (.cells #[.bool false, .string ⟨#[97]⟩, .int .i64 1, .int .i64 65535, .slice none 0 0, .bool r.al, .string r.h, .int .i64 r.lo, .int .i64 r.hi, .slice r.A r.n r.c] 25)); have D2 := Lib.hid (D1.out.trans (E1.out.mono D1.out.size)); have x2 := HC.out _ (K2.out.below D2.out); clear b1) | (go_at_call 10; (with_reducible refine CA1.out.mono ?_); rintro e v2 ⟨rfl, b2⟩; have D3 := Lib.hid (D2.out.trans (b2.mono D2.out.size)); have x3 := HC.out v2 (K2.out.below D3.out); clear b2))
      all_goals
        go_wp2_with fail
        go_roundw
        case rel => exact ⟨k + 1, by go_num, hlt, D3⟩
        case measure => simp [intOf]; omega
    · have BW := Lib.hid (B2.out.trans (HB.out.mono B2.out.size))
      have I3 := Lib.hid (is_below K2.out.o HB.out)
      clear K2 HB B2
      go_wp2_with fail
      go_loopw [4] (fun v wx => ∃ s : ByteArray, v = .string s ∧ s.size ≤ 64 ∧ Hid (bl s = List.replicate s.size 97) ∧ wr = wx) (fun v _ => 64 - szOf v)
      case atStart => exact ⟨⟨#[]⟩, rfl, by decide, Lib.hid rfl, rfl⟩
      case round =>
        obtain ⟨s, rfl, hs, HS, rfl⟩ := hrel
        by_cases hls : s.size < 64
        · have hls' : (s.size : Int) < 64 := by omega
          have hadd : ∀ W : World, (Op.stringOp .add s ⟨#[97]⟩).run Tryd.prog W = .ok (.string (s ++ ⟨#[97]⟩)) W := fun W => run_string_add W s _ (by omega) (by decide)
          have hsz : (s ++ ⟨#[97]⟩).size = s.size + 1 := by rw [ByteArray.size_append]; rfl
          have HS2 := Lib.hid (show bl (s ++ ⟨#[97]⟩) = List.replicate (s ++ ⟨#[97]⟩).size 97 by
            rw [hsz, List.replicate_succ', ← HS.out]
            unfold bl
            simp [ByteArray.data_append])
          go_wp2_with fail
          go_roundw
          case rel => exact ⟨_, rfl, by omega, HS2, trivial⟩
          case measure => simp only [szOf]; omega
        · obtain ⟨hs64⟩ : s.size = 64 ∧ True := ⟨by omega, trivial⟩
          have hls' : ¬ (s.size : Int) < 64 := by omega
          have hadd1 : ∀ W : World, (Op.stringOp .add ⟨#[46]⟩ s).run Tryd.prog W = .ok (.string (⟨#[46]⟩ ++ s)) W := fun W => run_string_add W _ s (by decide) (by omega)
          have hadd2 : ∀ W : World, (Op.stringOp .add s ⟨#[97]⟩).run Tryd.prog W = .ok (.string (s ++ ⟨#[97]⟩)) W := fun W => run_string_add W s _ (by omega) (by decide)
          have HL := Lib.hid (show mayF (ofR (⟨#[46]⟩ ++ s) 1 1) = true by
            rw [may_of, show bl (⟨#[46]⟩ ++ s) = 46 :: bl s by unfold bl; simp [ByteArray.data_append], HS.out, hs64]
            decide +kernel)
          have HM := Lib.hid (show mayF (ofR (s ++ ⟨#[97]⟩) 1 1) = false by
            rw [may_of, show bl (s ++ ⟨#[97]⟩) = bl s ++ [97] by unfold bl; simp [ByteArray.data_append], HS.out, hs64]
            decide +kernel)
          have hK : KnowW w.heap.size wr.heap.size (⟨#[46]⟩ ++ s) (s ++ ⟨#[97]⟩) ((((wr.alloc (.cells #[.bool false, .string (⟨#[46]⟩ ++ s), .int .i64 1, .int .i64 1, .slice none 0 0] 25)).alloc (.cells #[.bool false, .string (s ++ ⟨#[97]⟩), .int .i64 1, .int .i64 1, .slice none 0 0] 25)).alloc (.cells #[.string ⟨#[65]⟩, .string ⟨#[66]⟩, .string ⟨#[67]⟩, .string ⟨#[68]⟩, .string ⟨#[69]⟩, .string ⟨#[70]⟩, .string ⟨#[71]⟩, .string ⟨#[72]⟩] 9)).alloc (.cells #[.bool false, .string ⟨#[42]⟩, .int .i64 80, .int .i64 80, .slice (some ⟨wr.heap.size + 1 + 1, 0, none⟩) 8 8] 25)) := by
            have i1 := Is.made wr 25 (ofR (⟨#[46]⟩ ++ s) 1 1).cells
            have i2 := Is.made (wr.alloc (.cells (ofR (⟨#[46]⟩ ++ s) 1 1).cells.toArray 25)) 25 (ofR (s ++ ⟨#[97]⟩) 1 1).cells
            have i3 := Is.made ((wr.alloc (.cells (ofR (⟨#[46]⟩ ++ s) 1 1).cells.toArray 25)).alloc (.cells (ofR (s ++ ⟨#[97]⟩) 1 1).cells.toArray 25)) 9 (strs eightM)
            have i4 := Is.made (((wr.alloc (.cells (ofR (⟨#[46]⟩ ++ s) 1 1).cells.toArray 25)).alloc (.cells (ofR (s ++ ⟨#[97]⟩) 1 1).cells.toArray 25)).alloc (.cells (strs eightM).toArray 9)) 25 (eightR (wr.heap.size + 1 + 1)).cells
            simp only [World.alloc, Array.size_push] at i2 i3 i4
            exact ⟨(((I3.out.alloc _).alloc _).alloc _).alloc _, ((i1.alloc _).alloc _).alloc _, (Is.alloc i2 _).alloc _, Is.alloc i3 _, i4⟩
          have hb4 : Below wr.heap.size wr ((((wr.alloc (.cells #[.bool false, .string (⟨#[46]⟩ ++ s), .int .i64 1, .int .i64 1, .slice none 0 0] 25)).alloc (.cells #[.bool false, .string (s ++ ⟨#[97]⟩), .int .i64 1, .int .i64 1, .slice none 0 0] 25)).alloc (.cells #[.string ⟨#[65]⟩, .string ⟨#[66]⟩, .string ⟨#[67]⟩, .string ⟨#[68]⟩, .string ⟨#[69]⟩, .string ⟨#[70]⟩, .string ⟨#[71]⟩, .string ⟨#[72]⟩] 9)).alloc (.cells #[.bool false, .string ⟨#[42]⟩, .int .i64 80, .int .i64 80, .slice (some ⟨wr.heap.size + 1 + 1, 0, none⟩) 8 8] 25)) := ((((Below.refl _ wr).alloc (Nat.le_refl _) _).alloc (by simp) _).alloc (by simp; omega) _).alloc (by simp; omega) _
          have K4 := Lib.hid hK
          have B4 := Lib.hid (BW.out.trans (hb4.mono BW.out.size))
          clear hK hb4 I3 BW HS
          go_wp2_with fail
          generalize ((((wr.alloc (.cells #[.bool false, .string (⟨#[46]⟩ ++ s), .int .i64 1, .int .i64 1, .slice none 0 0] 25)).alloc (.cells #[.bool false, .string (s ++ ⟨#[97]⟩), .int .i64 1, .int .i64 1, .slice none 0 0] 25)).alloc (.cells #[.string ⟨#[65]⟩, .string ⟨#[66]⟩, .string ⟨#[67]⟩, .string ⟨#[68]⟩, .string ⟨#[69]⟩, .string ⟨#[70]⟩, .string ⟨#[71]⟩, .string ⟨#[72]⟩] 9)).alloc (.cells #[.bool false, .string ⟨#[42]⟩, .int .i64 80, .int .i64 80, .slice (some ⟨wr.heap.size + 1 + 1, 0, none⟩) 8 8] 25)) = w4 at *
          generalize wr.heap.size = q at *
          have HT1 : ∃ T1 : ByteArray, T1 = ⟨#[46]⟩ ++ s := ⟨_, rfl⟩
          have HT2 : ∃ T2 : ByteArray, T2 = s ++ ⟨#[97]⟩ := ⟨_, rfl⟩
          obtain ⟨T1, hT1⟩ := HT1
          obtain ⟨T2, hT2⟩ := HT2
          rw [← hT1, ← hT2] at K4
          rw [← hT1] at HL
          rw [← hT2] at HM
          clear hT1 hT2
          clear hadd1 hadd2 hs64 hs hls
          go_loopw [8, 9] (fun v8 vi wx => ∃ (k : Nat) (o : Option Nat), vi = .int .i64 (k : Int) ∧ k ≤ 16 ∧ Hid (Duo w4 wx v8 o (List.replicate k okR) (.slice none 0 0) none [])) (fun _ vi _ => 16 - (intOf vi).toNat)
          case atStart => exact ⟨0, none, rfl, Nat.zero_le _, Lib.hid (Duo.start w4 w4 (Below.refl _ _))⟩
          case round =>
            obtain ⟨k2, o, rfl, hk2, HD⟩ := hrel
            have KX := Lib.hid (K4.out.below HD.out.bel)
            have BX := Lib.hid (B4.out.trans (HD.out.bel.mono B4.out.size))
            obtain ⟨y0, y1, y2, y3, y4⟩ := cells5 KX.out.o
            simp only [okR] at y0 y1 y2 y3 y4
            by_cases hl2 : k2 < 16
            · obtain ⟨v', w', o', hrun, hd'⟩ := Duo.push HD.out okR (by rw [List.length_replicate]; omega)
              simp only [okR] at hrun
              have HRU := Lib.hid hrun
              have D' := Lib.hid (show Duo w4 w' v' o' (List.replicate (k2 + 1) okR) (.slice none 0 0) none [] by rw [List.replicate_succ']; exact hd')
              clear hrun hd'
              go_wp2_with (at_builtin; refine append_by rfl (.tmp 59) (.tmp 61) 22 rfl _ _ v' w' rfl rfl HRU.out ?_)
              go_roundw
              case rel => exact ⟨k2 + 1, o', by go_num, hl2, D'⟩
              case measure => simp [intOf]; omega
            · obtain rfl : k2 = 16 := by omega
              obtain ⟨A8, c8, hv8, _, hsrc8⟩ := HD.out.own.src (fun _ => True) (fun _ _ => trivial)
              rw [List.length_replicate] at hv8
              have HV := Lib.hid hv8
              have hl2' : ¬ ((16 : Nat) : Int) < 16 := by omega
              have hz17 : allF (List.replicate 16 okR ++ [okR]) = false := by
                rw [← List.replicate_succ', all_reps]
                decide
              have hz16 : allF (List.replicate 16 okR) = true := by rw [all_reps]; decide
              have Z17 := Lib.hid hz17
              have Z16 := Lib.hid hz16
              have hoks : ∀ (W : World), ∀ x ∈ List.replicate 16 okR, x.Ok W := fun W x hx => by rw [List.eq_of_mem_replicate hx]; exact ok_none _ _ _ _ _
              have HOK := Lib.hid hoks
              subst hv8
              have HS8 := Lib.hid hsrc8
              clear hz16 hz17 hoks HV hsrc8 hlt hk hk2
              generalize wr = u0 at *
              have KK0 := KX
              have BB0 := BX
              have DD0 := HD
              have B4K := B4
              clear KX BX HD K4 B4
              have SS0 := HS8
              have BQ := B4K
              go_wp2_with fail
              refine (of_may ⟨#[97]⟩ 1 65535 true u0 (HP.out.below BB0.out) may_ok).mono ?_
              rintro e u1 ⟨rfl, b1⟩
              have BB1 := Lib.hid (BB0.out.trans (b1.mono BB0.out.size))
              have KK1 := Lib.hid (KK0.out.below b1)
              have DD1 := Lib.hid (DD0.out.below b1)
              have SS1 := Lib.hid (SS0.out.below b1)
              clear y0 y1 y2 y3 y4 b1 BB0 KK0 DD0 SS0
              obtain ⟨y0, y1, y2, y3, y4⟩ := cells5 KK1.out.a
              simp only [ofR] at y0 y1 y2 y3 y4
              go_wp2_with fail
              refine (of_may T1 1 1 true u1 (HP.out.below BB1.out) HL.out).mono ?_
              rintro e u2 ⟨rfl, b2⟩
              have BB2 := Lib.hid (BB1.out.trans (b2.mono BB1.out.size))
              have KK2 := Lib.hid (KK1.out.below b2)
              have DD2 := Lib.hid (DD1.out.below b2)
              have SS2 := Lib.hid (SS1.out.below b2)
              clear y0 y1 y2 y3 y4 b2 BB1 KK1 DD1 SS1
              obtain ⟨y0, y1, y2, y3, y4⟩ := cells5 KK2.out.b
              simp only [ofR] at y0 y1 y2 y3 y4
              go_wp2_with fail
              refine (of_may T2 1 1 false u2 (HP.out.below BB2.out) HM.out).mono ?_
              rintro e u3 ⟨rfl, b3⟩
              have BB3 := Lib.hid (BB2.out.trans (b3.mono BB2.out.size))
              have KK3 := Lib.hid (KK2.out.below b3)
              have DD3 := Lib.hid (DD2.out.below b3)
              have SS3 := Lib.hid (SS2.out.below b3)
              clear y0 y1 y2 y3 y4 b3 BB2 KK2 DD2 SS2
              obtain ⟨y0, y1, y2, y3, y4⟩ := cells5 KK3.out.d
              simp only [eightR] at y0 y1 y2 y3 y4
              go_wp2_with fail
              refine (eight_may (q + 1 + 1) u3 (HP.out.below BB3.out) KK3.out.eight).mono ?_
              rintro e u4 ⟨rfl, b4⟩
              have BB4 := Lib.hid (BB3.out.trans (b4.mono BB3.out.size))
              have KK4 := Lib.hid (KK3.out.below b4)
              have DD4 := Lib.hid (DD3.out.below b4)
              have SS4 := Lib.hid (SS3.out.below b4)
              clear y0 y1 y2 y3 y4 b4 BB3 KK3 DD3 SS3
              obtain ⟨y0, y1, y2, y3, y4⟩ := cells5 KK4.out.d
              simp only [eightR] at y0 y1 y2 y3 y4
              go_wp2_with fail
              refine (eight_match (q + 1 + 1) ⟨#[72]⟩ true u4 KK4.out.eight rfl).mono ?_
              rintro e u5 ⟨rfl, b5⟩
              have BB5 := Lib.hid (BB4.out.trans (b5.mono BB4.out.size))
              have KK5 := Lib.hid (KK4.out.below b5)
              have DD5 := Lib.hid (DD4.out.below b5)
              have SS5 := Lib.hid (SS4.out.below b5)
              clear y0 y1 y2 y3 y4 b5 BB4 KK4 DD4 SS4
              obtain ⟨y0, y1, y2, y3, y4⟩ := cells5 KK5.out.d
              simp only [eightR] at y0 y1 y2 y3 y4
              go_wp2_with fail
              refine (eight_match (q + 1 + 1) ⟨#[104]⟩ false u5 KK5.out.eight rfl).mono ?_
              rintro e u6 ⟨rfl, b6⟩
              have BB6 := Lib.hid (BB5.out.trans (b6.mono BB5.out.size))
              have KK6 := Lib.hid (KK5.out.below b6)
              have DD6 := Lib.hid (DD5.out.below b6)
              have SS6 := Lib.hid (SS5.out.below b6)
              clear y0 y1 y2 y3 y4 b6 BB5 KK5 DD5 SS5
              obtain ⟨y0, y1, y2, y3, y4⟩ := cells5 KK6.out.o
              simp only [okR] at y0 y1 y2 y3 y4
              go_wp2_with fail
              have CL := all_any u6 A8 (List.replicate 16 okR) 16 c8 (List.length_replicate ..) (by decide) SS6.out (HOK.out _) (HP.out.below BB6.out)
              rw [Z16.out] at CL
              have CL := Lib.hid CL
              refine CL.out.mono ?_
              rintro e u7 ⟨rfl, b7⟩
              have BB7 := Lib.hid (BB6.out.trans (b7.mono BB6.out.size))
              have KK7 := Lib.hid (KK6.out.below b7)
              have DD7 := Lib.hid (DD6.out.below b7)
              have SS7 := Lib.hid (SS6.out.below b7)
              clear CL
              clear y0 y1 y2 y3 y4 b7 BB6 KK6 DD6 SS6
              obtain ⟨y0, y1, y2, y3, y4⟩ := cells5 KK7.out.o
              simp only [okR] at y0 y1 y2 y3 y4
              obtain ⟨v', w', o', hrun, hd'⟩ := Duo.push DD7.out okR (by rw [List.length_replicate]; decide)
              simp only [okR] at hrun
              obtain ⟨A9, c9, hv9, _, hsrc9⟩ := hd'.own.src (fun _ => True) (fun _ _ => trivial)
              have hl9 : (List.replicate 16 okR ++ [okR]).length = 17 := by simp
              have hoks : ∀ x ∈ List.replicate 16 okR ++ [okR], x.Ok w' := fun x hx => by
                rcases List.mem_append.1 hx with hx | hx
                · exact HOK.out _ x hx
                · simp at hx; rw [hx]; exact ok_none _ _ _ _ _
              have BBA := Lib.hid (BQ.out.trans (hd'.bel.mono BQ.out.size))
              have C17 := all_any w' A9 (List.replicate 16 okR ++ [okR]) 17 c9 hl9 (by decide) hsrc9 hoks (HP.out.below BBA.out)
              rw [Z17.out] at C17
              have C17 := Lib.hid C17
              rw [hl9] at hv9
              subst hv9
              have HRU := Lib.hid hrun
              clear hrun hd' hsrc9 hl9 hoks SS7 DD7 KK7 BB7
              go_wp2_with (at_builtin; refine append_by_g rfl (.tmp 92) (.tmp 94) 22 rfl _ _ (.slice A9 17 c9) w' rfl rfl HRU.out ?_)
              refine C17.out.mono ?_
              rintro e u8 ⟨rfl, b8⟩
              have BB8 := Lib.hid (BBA.out.trans (b8.mono BBA.out.size))
              clear b8
              go_wp2_with fail
              refine (nil_all u8 (HP.out.below BB8.out)).mono ?_
              rintro e u9 ⟨rfl, b9⟩
              have BB9 := Lib.hid (BB8.out.trans (b9.mono BB8.out.size))
              clear b9 BB8
              go_wp2_with fail
              refine (nil_admits ⟨#[97]⟩ ⟨#[71, 69, 84]⟩ 1 u9 (by decide)).mono ?_
              rintro e u10 ⟨rfl, b10⟩
              have BB10 := Lib.hid (BB9.out.trans (b10.mono BB9.out.size))
              clear b10 BB9
              go_wp2_with fail
              refine (of_may ⟨#[46, 46]⟩ 1 1 false u10 (HP.out.below BB10.out) (by decide +kernel)).mono ?_
              rintro e u11 ⟨rfl, b11⟩
              have BB11 := Lib.hid (BB10.out.trans (b11.mono BB10.out.size))
              clear b11 BB10
              go_wp2_with fail
              refine (of_may ⟨#[97, 46]⟩ 1 1 false u11 (HP.out.below BB11.out) (by decide +kernel)).mono ?_
              rintro e u12 ⟨rfl, b12⟩
              have BB12 := Lib.hid (BB11.out.trans (b12.mono BB11.out.size))
              clear b12 BB11
              go_wp2_with fail
              refine (of_may ⟨#[49, 50, 55, 46, 49]⟩ 1 1 false u12 (HP.out.below BB12.out) (by decide +kernel)).mono ?_
              rintro e u13 ⟨rfl, b13⟩
              have BB13 := Lib.hid (BB12.out.trans (b13.mono BB12.out.size))
              clear b13 BB12
              go_wp2_with fail
              refine (wakes_any u13 (HP.out.below BB13.out)).mono ?_
              rintro e u14 ⟨rfl, b14⟩
              have BB14 := Lib.hid (BB13.out.trans (b14.mono BB13.out.size))
              clear b14 BB13
              go_wp2_with fail
              go_ret
              exact ⟨rfl, BB14.out⟩
end Go.Proofs.YtcmnnidjamdmeaaDoor.Acl
