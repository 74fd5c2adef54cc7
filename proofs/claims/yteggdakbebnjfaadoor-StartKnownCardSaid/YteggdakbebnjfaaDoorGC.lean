/-
  What package start's Reason does: a map that the call makes, looked up once.
  Conditions: those that each theorem names.
-/
import Derived.Test.YteggdakbebnjfaaDoorSF
import Derived.Maps.Own
import Derived.Maps.Views
import Derived.Carry
namespace Go.Proofs.YteggdakbebnjfaaDoor
open Go.RowKit Go.Maps

/-- How a phrase reads: its words. -/
def phr (v : Value) : Option (DataW Unit × List MemPlace) := match v with
  | .agg a => (match a.toList with
    | [.string s] => some (.lit (.string s.data.toList), [])
    | _ => none)
  | _ => none
theorem phr_mk (s : ByteArray) : phr (.agg #[.string s]) = some (.lit (.string s.data.toList), []) := rfl
theorem phr_inv {v : Value} {l : List UInt8} {ps : List MemPlace} (h : phr v = some (.lit (.string l), ps)) : v = .agg #[.string ⟨l.toArray⟩] := by
  unfold phr at h
  split at h
  · rename_i a
    split at h
    · rename_i s ha
      simp only [Option.some.injEq, Prod.mk.injEq, DataW.lit.injEq, Lit.string.injEq] at h
      rw [← h.1, show a = #[.string s] by rw [← a.toArray_toList, ha]]
    · cases h
  · cases h
theorem keyLaw : Keyed Tryd.prog 3 := int_keyed Tryd.underlying3
theorem keyAt (n : Int) (h0 : -9223372036854775808 ≤ n) (h1 : n ≤ 9223372036854775807) : keyOf Tryd.prog 3 (.int .i64 n) = some (.int .i64 n) :=
  keyOf_int_mk Tryd.underlying3 (WalkArith.wf_i64 (by omega))
theorem zeroPhr (w : World) : (zeroValue 56).run Tryd.prog w = .ok (.agg #[.string ⟨#[]⟩]) w := by kernel_rfl
/-- One entry more. -/
def put1 (D : DataW Unit) (x : Int × List UInt8) : DataW Unit := D.put (.int .i64 x.1) (.lit (.string x.2))
theorem put_some {w : World} {b n : Nat} {D : DataW Unit} (h : w.ownsMap Tryd.prog 3 phr b n D) (hn : n < 100) (k : Int) (l : List UInt8) (h0 : -9223372036854775808 ≤ k) (h1 : k ≤ 9223372036854775807) :
    ∃ w', (Instr.mapUpdate 57 (.map (some b)) (.int .i64 k) (.agg #[.string ⟨l.toArray⟩])).run Tryd.prog w = .ok () w' ∧ w'.ownsMap Tryd.prog 3 phr b (n + 1) (put1 D (k, l)) ∧ w.grownBy w' (some b) :=
  h.update keyLaw Tryd.underlying57 (by unfold maxLen; omega) (keyAt k h0 h1) (phr_mk ⟨l.toArray⟩)
theorem look_put (D : DataW Unit) (hD : IsMap D) (n k : Int) (l : List UInt8) (z : DataW Unit) : (put1 D (k, l)).atKey (.int .i64 n) z = if n = k then .lit (.string l) else D.atKey (.int .i64 n) z := by
  by_cases h : n = k
  · rw [if_pos h, h]
    exact atKey_put_same hD (by simp [WideAt.IsKeyLit]) _ _
  · rw [if_neg h]
    exact atKey_put_other (by simpa using h) _ _
theorem isMap_put1 {D : DataW Unit} (h : IsMap D) (x : Int × List UInt8) : IsMap (put1 D x) := h.put _ _
theorem below_grown {w a b : World} {g : Nat} (h : Below w.heap.size w a) (hg : a.grownBy b (some g)) (hn : w.heap.size ≤ g) : Below w.heap.size w b :=
  h.grown hg h.size (fun k hk => by injection hk with hk; omega)
set_option maxHeartbeats 8000000 in
set_option maxRecDepth 100000 in
theorem reason_any (n : Int) (w : World) (h0 : -9223372036854775808 ≤ n) (h1 : n ≤ 9223372036854775807) : Calls Tryd.prog 16 #[.int .i64 n] w fun e w' => e = .returned (.string ⟨(reasonF n).toArray⟩) ∧ Below w.heap.size w w' := by
  have o0 := World.ownsMap_made w Tryd.prog 3 phr
  have b0 : Below w.heap.size w (w.alloc (.map #[] 0)) := (Below.refl _ _).alloc (Nat.le_refl _) _
  obtain ⟨w0, hw0⟩ : ∃ w0, w.alloc (.map #[] 0) = w0 := ⟨_, rfl⟩
  have hmm : (Instr.makeMap 57 none).run Tryd.prog w = .ok (.map (some w.heap.size)) w0 := by rw [← hw0]; rfl
  rw [hw0] at o0 b0
  clear hw0
  obtain ⟨w1, r1, o1, g1⟩ := put_some o0 (by omega) 200 [79, 75] (by omega) (by omega)
  obtain ⟨w2, r2, o2, g2⟩ := put_some o1 (by omega) 304 [78, 111, 116, 32, 77, 111, 100, 105, 102, 105, 101, 100] (by omega) (by omega)
  obtain ⟨w3, r3, o3, g3⟩ := put_some o2 (by omega) 400 [66, 97, 100, 32, 82, 101, 113, 117, 101, 115, 116] (by omega) (by omega)
  obtain ⟨w4, r4, o4, g4⟩ := put_some o3 (by omega) 403 [70, 111, 114, 98, 105, 100, 100, 101, 110] (by omega) (by omega)
  obtain ⟨w5, r5, o5, g5⟩ := put_some o4 (by omega) 407 [80, 114, 111, 120, 121, 32, 65, 117, 116, 104, 101, 110, 116, 105, 99, 97, 116, 105, 111, 110, 32, 82, 101, 113, 117, 105, 114, 101, 100] (by omega) (by omega)
  obtain ⟨w6, r6, o6, g6⟩ := put_some o5 (by omega) 413 [67, 111, 110, 116, 101, 110, 116, 32, 84, 111, 111, 32, 76, 97, 114, 103, 101] (by omega) (by omega)
  obtain ⟨w7, r7, o7, g7⟩ := put_some o6 (by omega) 429 [84, 111, 111, 32, 77, 97, 110, 121, 32, 82, 101, 113, 117, 101, 115, 116, 115] (by omega) (by omega)
  obtain ⟨w8, r8, o8, g8⟩ := put_some o7 (by omega) 431 [82, 101, 113, 117, 101, 115, 116, 32, 72, 101, 97, 100, 101, 114, 32, 70, 105, 101, 108, 100, 115, 32, 84, 111, 111, 32, 76, 97, 114, 103, 101] (by omega) (by omega)
  obtain ⟨w9, r9, o9, g9⟩ := put_some o8 (by omega) 501 [78, 111, 116, 32, 73, 109, 112, 108, 101, 109, 101, 110, 116, 101, 100] (by omega) (by omega)
  obtain ⟨w10, r10, o10, g10⟩ := put_some o9 (by omega) 502 [66, 97, 100, 32, 71, 97, 116, 101, 119, 97, 121] (by omega) (by omega)
  obtain ⟨w11, r11, o11, g11⟩ := put_some o10 (by omega) 503 [83, 101, 114, 118, 105, 99, 101, 32, 85, 110, 97, 118, 97, 105, 108, 97, 98, 108, 101] (by omega) (by omega)
  obtain ⟨w12, r12, o12, g12⟩ := put_some o11 (by omega) 504 [71, 97, 116, 101, 119, 97, 121, 32, 84, 105, 109, 101, 111, 117, 116] (by omega) (by omega)
  obtain ⟨v, ps, rl, hv⟩ := o12.lookup keyLaw Tryd.underlying57 (zeroPhr _) (phr_mk ⟨#[]⟩) (keyAt n h0 h1)
  have b1 := below_grown b0 g1 (Nat.le_refl _)
  have b2 := below_grown b1 g2 (Nat.le_refl _)
  have b3 := below_grown b2 g3 (Nat.le_refl _)
  have b4 := below_grown b3 g4 (Nat.le_refl _)
  have b5 := below_grown b4 g5 (Nat.le_refl _)
  have b6 := below_grown b5 g6 (Nat.le_refl _)
  have b7 := below_grown b6 g7 (Nat.le_refl _)
  have b8 := below_grown b7 g8 (Nat.le_refl _)
  have b9 := below_grown b8 g9 (Nat.le_refl _)
  have b10 := below_grown b9 g10 (Nat.le_refl _)
  have b11 := below_grown b10 g11 (Nat.le_refl _)
  have b12 := below_grown b11 g12 (Nat.le_refl _)
  have hD : (put1 (put1 (put1 (put1 (put1 (put1 (put1 (put1 (put1 (put1 (put1 (put1 (.map []) (200, [79, 75])) (304, [78, 111, 116, 32, 77, 111, 100, 105, 102, 105, 101, 100])) (400, [66, 97, 100, 32, 82, 101, 113, 117, 101, 115, 116])) (403, [70, 111, 114, 98, 105, 100, 100, 101, 110])) (407, [80, 114, 111, 120, 121, 32, 65, 117, 116, 104, 101, 110, 116, 105, 99, 97, 116, 105, 111, 110, 32, 82, 101, 113, 117, 105, 114, 101, 100])) (413, [67, 111, 110, 116, 101, 110, 116, 32, 84, 111, 111, 32, 76, 97, 114, 103, 101])) (429, [84, 111, 111, 32, 77, 97, 110, 121, 32, 82, 101, 113, 117, 101, 115, 116, 115])) (431, [82, 101, 113, 117, 101, 115, 116, 32, 72, 101, 97, 100, 101, 114, 32, 70, 105, 101, 108, 100, 115, 32, 84, 111, 111, 32, 76, 97, 114, 103, 101])) (501, [78, 111, 116, 32, 73, 109, 112, 108, 101, 109, 101, 110, 116, 101, 100])) (502, [66, 97, 100, 32, 71, 97, 116, 101, 119, 97, 121])) (503, [83, 101, 114, 118, 105, 99, 101, 32, 85, 110, 97, 118, 97, 105, 108, 97, 98, 108, 101])) (504, [71, 97, 116, 101, 119, 97, 121, 32, 84, 105, 109, 101, 111, 117, 116])).atKey (.int .i64 n) (.lit (.string (⟨#[]⟩ : ByteArray).data.toList)) = .lit (.string (reasonF n)) := by
    repeat rw [look_put _ (by repeat' first | exact isMap_empty | apply isMap_put1)]
    by_cases h200 : n = 200
    · subst h200; simp [reasonF]
    by_cases h304 : n = 304
    · subst h304; simp [reasonF]
    by_cases h400 : n = 400
    · subst h400; simp [reasonF]
    by_cases h403 : n = 403
    · subst h403; simp [reasonF]
    by_cases h407 : n = 407
    · subst h407; simp [reasonF]
    by_cases h413 : n = 413
    · subst h413; simp [reasonF]
    by_cases h429 : n = 429
    · subst h429; simp [reasonF]
    by_cases h431 : n = 431
    · subst h431; simp [reasonF]
    by_cases h501 : n = 501
    · subst h501; simp [reasonF]
    by_cases h502 : n = 502
    · subst h502; simp [reasonF]
    by_cases h503 : n = 503
    · subst h503; simp [reasonF]
    by_cases h504 : n = 504
    · subst h504; simp [reasonF]
    have hr : reasonF n = [] := by unfold reasonF; simp [*]
    rw [hr]
    simp [*]
    rfl
  rw [hD] at hv
  have hv := phr_inv hv
  subst hv
  have B := Lib.hid b12
  clear o0 o1 o2 o3 o4 o5 o6 o7 o8 o9 o10 o11 o12 g1 g2 g3 g4 g5 g6 g7 g8 g9 g10 g11 g12 b0 b1 b2 b3 b4 b5 b6 b7 b8 b9 b10 b11 b12 hD
  have hfd : ∀ (l : List UInt8) (w : World), (Instr.field 56 (.agg #[.string ⟨l.toArray⟩]) 0).run Tryd.prog w = .ok (.string ⟨l.toArray⟩) w := fun _ _ => by kernel_rfl
  go_enter Tryd.func16, Tryd.ntmps16
  go_wp2_with fail
  go_ret
  exact ⟨rfl, B.out⟩
end Go.Proofs.YteggdakbebnjfaaDoor
