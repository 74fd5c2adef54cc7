/-
  What package uri's number, octet, every, Named, path do, call by call.
  Conditions: those that each theorem names; Go's table of powers of ten is as its text lays it.
-/
import Derived.Test.YtopanahgeeolbaaGreatDoorYG
namespace Go.Proofs.YtopanahgeeolbaaGreatDoor.Uri
open Go.RowKit

/-- What number tells. -/
def numV (r : Option Nat) : Value := match r with
  | none => .tuple #[.int .i64 0, .bool false]
  | some n => .tuple #[.int .i64 (n : Int), .bool true]
set_option maxHeartbeats 2000000 in
theorem number_any (s : ByteArray) (most : Nat) (w : World) (hm : most ≤ 65535) (hp : PowTab w) : Calls Tryz.prog 112 #[.string s, .int .u64 (most : Int)] w fun e w' => e = .returned (numV (numbF most (bl s))) ∧ Below w.heap.size w w' := by
  have CD := Lib.hid (decimal_any s w)
  have HN := Lib.hid (show numbF most (bl s) = if (readF 10 (bl s)).2 = 0 ∧ (readF 10 (bl s)).1 ≤ most ∧ numF 10 (readF 10 (bl s)).1 = bl s then some (readF 10 (bl s)).1 else none from rfl)
  generalize readF 10 (bl s) = p at *
  obtain ⟨n, e⟩ := p
  simp only at HN
  have CT := Lib.hid (fun (X : World) (hX : PowTab X) => text_any n X hX)
  have HP := Lib.hid hp
  clear hp
  unfold Read at CD
  simp only at CD
  by_cases he : e = 0
  · subst he
    by_cases hn : n ≤ most
    · have e2 : ¬ (most : Int) < (n : Int) := by omega
      have hw : writeF 10 n = (numF 10 n, 0) := writeF_ok 10 n (by unfold Most; omega)
      rw [hw] at CT
      unfold Wrote at CT
      simp only at CT
      have c1 : IntKind.i64.wrap (n : Int) = (n : Int) := IntWalk.i64_in _ (by omega)
      clear hw
      by_cases hs : numF 10 n = bl s
      · have e3 : (numF 10 n == s.toList) = true := by rw [Lib.toList_data]; exact beq_iff_eq.2 hs
        have e4 : numF 10 n = s.toList := by rw [Lib.toList_data]; exact hs
        have HR := Lib.hid (show numbF most (bl s) = some n by rw [HN.out, if_pos ⟨rfl, hn, hs⟩])
        clear HN hs
        generalize numF 10 n = D at *
        go_enter Tryz.func112, Tryz.ntmps112
        go_wp2_with fail
        refine CD.out.mono ?_
        rintro e w1 ⟨rfl, b1⟩
        go_wp2_with fail
        refine (CT.out _ (HP.out.below b1)).mono ?_
        rintro e w2 ⟨rfl, b2⟩
        go_wp2_with fail
        go_ret2
        exact ⟨by rw [HR.out]; rfl, b1.trans (b2.mono b1.size)⟩
      · have e3 : (numF 10 n == s.toList) = false := by rw [Lib.toList_data]; exact beq_eq_false_iff_ne.2 hs
        have e4 : ¬ numF 10 n = s.toList := by rw [Lib.toList_data]; exact hs
        have HR := Lib.hid (show numbF most (bl s) = none by rw [HN.out, if_neg (fun h => hs h.2.2)])
        clear HN hs
        generalize numF 10 n = D at *
        go_enter Tryz.func112, Tryz.ntmps112
        go_wp2_with fail
        refine CD.out.mono ?_
        rintro e w1 ⟨rfl, b1⟩
        go_wp2_with fail
        refine (CT.out _ (HP.out.below b1)).mono ?_
        rintro e w2 ⟨rfl, b2⟩
        go_wp2_with fail
        go_ret2
        exact ⟨by rw [HR.out]; rfl, b1.trans (b2.mono b1.size)⟩
    · have e2 : (most : Int) < (n : Int) := by omega
      have HR := Lib.hid (show numbF most (bl s) = none by rw [HN.out, if_neg (fun h => hn h.2.1)])
      clear HN hn CT
      go_enter Tryz.func112, Tryz.ntmps112
      go_wp2_with fail
      refine CD.out.mono ?_
      rintro e w1 ⟨rfl, b1⟩
      go_wp2_with fail
      go_ret2
      exact ⟨by rw [HR.out]; rfl, b1⟩
  · have e1 : ((e : Int) != 0) = true := by simp; omega
    have HR := Lib.hid (show numbF most (bl s) = none by rw [HN.out, if_neg (fun h => he h.1)])
    clear HN he CT
    go_enter Tryz.func112, Tryz.ntmps112
    go_wp2_with fail
    refine CD.out.mono ?_
    rintro e w1 ⟨rfl, b1⟩
    go_wp2_with fail
    go_ret2
    exact ⟨by rw [HR.out]; rfl, b1⟩
theorem octet_any (s : ByteArray) (w : World) (hp : PowTab w) : Calls Tryz.prog 101 #[.string s] w fun e w' => e = .returned (.bool (octF (bl s))) ∧ Below w.heap.size w w' := by
  have C := Lib.hid (number_any s 255 w (by omega) hp)
  have HO := Lib.hid (show octF (bl s) = (numbF 255 (bl s)).isSome from rfl)
  clear hp
  cases hn : numbF 255 (bl s) with
  | none =>
    rw [hn] at C HO
    clear hn
    go_enter Tryz.func101, Tryz.ntmps101
    go_wp2_with fail
    refine C.out.mono ?_
    rintro e w1 ⟨rfl, b1⟩
    rw [show numV (none : Option Nat) = .tuple #[.int .i64 0, .bool false] from rfl]
    go_wp2_with fail
    go_ret
    exact ⟨ret_bool HO.out.symm, b1⟩
  | some n =>
    rw [hn] at C HO
    clear hn
    go_enter Tryz.func101, Tryz.ntmps101
    go_wp2_with fail
    refine C.out.mono ?_
    rintro e w1 ⟨rfl, b1⟩
    rw [show numV (some n) = .tuple #[.int .i64 (n : Int), .bool true] from rfl]
    go_wp2_with fail
    go_ret
    exact ⟨ret_bool HO.out.symm, b1⟩

/-! ## every -/
theorem src_at {P : Nat → Prop} {w wr : World} {A : Option Addr} {ls : List (List UInt8)} {n c k : Nat} (h : SrcS w P A ls) (hn : ls.length = n) (hlt : k < n) (hB : Below w.heap.size w wr) :
    ∃ (p : Addr) (x : List UInt8), ls[k]? = some x ∧ (∀ Wx, (Instr.indexAt 49 (.slice A n c) (.int .i64 (k : Int))).run Tryz.prog Wx = .ok (.pointer (some p)) Wx) ∧ wr.cell? p = some (.string ⟨x.toArray⟩) := by
  obtain ⟨ad, hA, hP, hadb, hc⟩ := h (by omega)
  obtain ⟨x, hx⟩ : ∃ x, ls[k]? = some x := ⟨ls[k]'(by omega), List.getElem?_eq_getElem _⟩
  have c1 := hc k x hx
  refine ⟨ad.add k, x, hx, fun Wx => ?_, (hB.cell (Lib.lt_of_cell c1)).trans c1⟩
  rw [hA]
  exact run_at 49 9 Tryz.underlying49 strSize ad n c k hlt Wx
theorem srcs_is {w : World} {g : Nat} {ls : List (List UInt8)} (h : Is w g 9 (strs ls)) (j : Nat) : SrcS w (fun _ => True) (some ⟨g, j, none⟩) (ls.drop j) := fun _ => ⟨_, rfl, trivial, h.lt, fun i l hl => by
  rw [add_at, h.cell]
  rw [List.getElem?_drop] at hl
  simp [strs, hl]⟩
theorem srcs_below {w w' : World} {P : Nat → Prop} {A : Option Addr} {ls : List (List UInt8)} (h : SrcS w P A ls) (hb : Below w.heap.size w w') : SrcS w' P A ls := fun h0 => by
  obtain ⟨ad, hA, hP, hadb, hc⟩ := h h0
  exact ⟨ad, hA, hP, Nat.lt_of_lt_of_le hadb hb.size, fun i l hl => (hb.cell (Lib.lt_of_cell (hc i l hl))).trans (hc i l hl)⟩

/-- What is handed on to every. -/
def Handed (f : FuncId) : Prop := f = 99 ∨ f = 101 ∨
  False
def SaysS (f : FuncId) (p : List UInt8 → Bool) : Prop := ∀ (s : ByteArray) (w : World), PowTab w → Calls Tryz.prog f #[.string s] w fun e w' => e = .returned (.bool (p (bl s))) ∧ Below w.heap.size w w'
set_option maxHeartbeats 1000000 in
theorem every1_any (f : FuncId) (hf : Handed f) (p : List UInt8 → Bool) (hp : SaysS f p) (s : ByteArray) (g : Nat) (X : World) (hc : X.cell? ⟨g, 0, none⟩ = some (.func (.func f) #[] #[])) (hX : PowTab X) :
    Calls Tryz.prog 106 #[.string s, .pointer (some ⟨g, 0, none⟩)] X fun e w' => e = .returned (.bool (!p (bl s))) ∧ Below X.heap.size X w' := by
  have C := Lib.hid (hp s X hX)
  clear hp hX
  generalize p (bl s) = b at *
  first | (rcases hf with rfl | rfl | ⟨⟨⟩⟩) | (rcases hf with rfl | rfl | rfl | rfl | ⟨⟨⟩⟩)
  all_goals
    go_enter Tryz.func106, Tryz.ntmps106
    go_wp2_with fail
    refine C.out.mono ?_
    rintro e w' ⟨rfl, b'⟩
    go_wp2_with fail
    go_ret
    exact ⟨rfl, b'⟩
theorem any_no {α : Type} (ls : List α) (p : α → Bool) : ls.any (fun x => !p x) = !ls.all p := by
  induction ls with
  | nil => rfl
  | cons a l ih => simp [ih, Bool.not_and]
set_option maxHeartbeats 4000000 in
theorem index_any (f : FuncId) (hf : Handed f) (p : List UInt8 → Bool) (hp : SaysS f p) {P' : Nat → Prop} (X : World) (A' : Option Addr) (ls : List (List UInt8)) (q c' : Nat) (hq : ls.length = q) (hqm : q ≤ 140737488351232) (h' : SrcS X P' A' ls) (g : Nat) (hc : X.cell? ⟨g, 0, none⟩ = some (.func (.func f) #[] #[])) (hX : PowTab X) :
    Calls Tryz.prog 64 #[.slice A' q c', .func (.func 106) #[] #[.pointer (some ⟨g, 0, none⟩)]] X fun e w' => ∃ i : Int, e = .returned (.int .i64 i) ∧ decide (0 ≤ i) = (!ls.all p) ∧ Below X.heap.size X w' := by
  have HQ := Lib.hid hq
  have H' := Lib.hid h'
  have HC := Lib.hid hc
  have HX := Lib.hid hX
  have HV := Lib.hid (fun (s : ByteArray) (W : World) => every1_any f hf p hp s g W)
  clear hq h' hc hX hp hf
  go_enter Tryz.func64, Tryz.ntmps64
  go_wp2_with fail
  go_loopw [8] (fun vi wr => ∃ k : Nat, vi = .int .i64 (k : Int) ∧ k ≤ q ∧ Hid ((ls.take k).all p = true) ∧ Hid (Below X.heap.size X wr)) (fun vi _ => q - (intOf vi).toNat)
  case atStart => exact ⟨0, rfl, Nat.zero_le _, Lib.hid rfl, Lib.hid (Below.refl _ _)⟩
  case round =>
    obtain ⟨k, rfl, hk, HE, HB⟩ := hrel
    by_cases hlt : k < q
    · obtain ⟨p', x, hx, hat', y2⟩ := src_at (c := c') H'.out HQ.out hlt HB.out
      have HTK := Lib.hid (show (ls.take (k + 1)).all p = p x by rw [List.take_add_one, hx, List.all_append, HE.out]; simp)
      have HIN := Lib.hid (List.mem_of_getElem? hx)
      have CD := HV.out ⟨x.toArray⟩ wr ((HB.out.cell (Lib.lt_of_cell HC.out)).trans HC.out) (HX.out.below HB.out)
      rw [bl_mk] at CD
      clear hx
      cases hb : p x with
      | true =>
        rw [hb] at CD HTK
        have CD1 := Lib.hid CD
        clear hb CD
        go_wp2_with fail
        refine CD1.out.mono ?_
        rintro e w5 ⟨rfl, b5⟩
        have B5 := Lib.hid (HB.out.trans (b5.mono HB.out.size))
        clear b5
        go_wp2_with fail
        go_roundw
        case rel => exact ⟨k + 1, by go_num, hlt, HTK, B5⟩
        case measure => simp [intOf]; omega
      | false =>
        rw [hb] at CD
        have CD1 := Lib.hid CD
        have HY := Lib.hid (show ls.all p = false by
          rw [Bool.eq_false_iff]
          intro h
          have := List.all_eq_true.1 h x HIN.out
          rw [hb] at this
          cases this)
        clear hb CD
        go_wp2_with fail
        refine CD1.out.mono ?_
        rintro e w5 ⟨rfl, b5⟩
        have B5 := Lib.hid (HB.out.trans (b5.mono HB.out.size))
        clear b5
        go_wp2_with fail
        go_ret
        exact ⟨(k : Int), rfl, by rw [HY.out]; simp, B5.out⟩
    · have HN := Lib.hid (show ls.all p = true by rw [← HE.out, List.take_of_length_le (by rw [HQ.out]; omega)])
      go_wp2_with fail
      go_ret
      exact ⟨-1, rfl, by rw [HN.out]; rfl, HB.out⟩
theorem containsf_any (f : FuncId) (hf : Handed f) (p : List UInt8 → Bool) (hp : SaysS f p) {P' : Nat → Prop} (X : World) (A' : Option Addr) (ls : List (List UInt8)) (q c' : Nat) (hq : ls.length = q) (hqm : q ≤ 140737488351232) (h' : SrcS X P' A' ls) (g : Nat) (hc : X.cell? ⟨g, 0, none⟩ = some (.func (.func f) #[] #[])) (hX : PowTab X) :
    Calls Tryz.prog 42 #[.slice A' q c', .func (.func 106) #[] #[.pointer (some ⟨g, 0, none⟩)]] X fun e w' => e = .returned (.bool (!ls.all p)) ∧ Below X.heap.size X w' := by
  have CI := Lib.hid (index_any f hf p hp X A' ls q c' hq hqm h' g hc hX)
  clear hq hqm h' hc hX hp hf
  generalize (!ls.all p) = b at *
  go_enter Tryz.func42, Tryz.ntmps42
  go_wp2_with fail
  refine CI.out.mono ?_
  rintro e w' ⟨i, rfl, hi, b'⟩
  go_wp2_with fail
  go_ret
  first | exact ⟨ret_bool hi, b'⟩ | exact ⟨rfl, b'⟩
set_option maxHeartbeats 2000000 in
theorem every_any (f : FuncId) (hf : Handed f) (p : List UInt8 → Bool) (hp : SaysS f p) {P' : Nat → Prop} (w : World) (A' : Option Addr) (ls : List (List UInt8)) (q c' : Nat) (hq : ls.length = q) (hqm : q ≤ 140737488351232) (h' : SrcS w P' A' ls) (hX : PowTab w) :
    Calls Tryz.prog 98 #[.slice A' q c', .func (.func f) #[] #[]] w fun e w' => e = .returned (.bool (ls.all p)) ∧ Below w.heap.size w w' := by
  have hb : Below w.heap.size w (w.alloc (.cells #[.func (.func f) #[] #[]] 30)) := (Below.refl _ w).alloc (Nat.le_refl _) _
  have i0 := Is.made w 30 [.func (.func f) #[] #[]]
  have CC := Lib.hid (containsf_any f hf p hp (w.alloc (.cells #[.func (.func f) #[] #[]] 30)) A' ls q c' hq hqm (srcs_below h' hb) w.heap.size (i0.cell 0) (hX.below hb))
  have HB := Lib.hid hb
  clear hq hqm h' hX hp hb i0
  generalize ls.all p = b at *
  first | (rcases hf with rfl | rfl | ⟨⟨⟩⟩) | (rcases hf with rfl | rfl | rfl | rfl | ⟨⟨⟩⟩)
  all_goals
    go_enter Tryz.func98, Tryz.ntmps98
    go_wp2_with fail
    refine CC.out.mono ?_
    rintro e w' ⟨rfl, b'⟩
    go_wp2_with fail
    go_ret
    exact ⟨by simp, HB.out.trans (b'.mono HB.out.size)⟩
theorem says_lab : SaysS 99 labF := fun s w _ => label_any s w
theorem says_oct : SaysS 101 octF := fun s w h => octet_any s w h
end Go.Proofs.YtopanahgeeolbaaGreatDoor.Uri
