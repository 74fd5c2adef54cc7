/-
  What the reference's Put answers.
  Conditions: those that each theorem names.
-/
import Derived.Test.YtdggfonbjhejoaaDoorHF
import Derived.Test.YtdggfonbjhejoaaDoorUD
namespace Go.Proofs.YtdggfonbjhejoaaDoor
open Go.RowKit

/-- The plain lines of fields; their bytes. -/
def linesF (ls : List Fld) : List UInt8 := ls.flatMap fun f => f.1 ++ ([58, 32] ++ (f.2 ++ [13, 10]))
def putF (ls : List Fld) : Option (List UInt8) := if mayF ls = true then some (linesF ls ++ [13, 10]) else none
theorem linesF_snoc (ls : List Fld) (f : Fld) : linesF (ls ++ [f]) = linesF ls ++ (f.1 ++ ([58, 32] ++ (f.2 ++ [13, 10]))) := by simp [linesF]
theorem linesF_length (ls : List Fld) : (linesF ls).length + 2 = sumL ls := by
  unfold linesF sumL lineL
  induction ls with
  | nil => rfl
  | cons f r ih =>
    simp only [List.flatMap_cons, List.length_append, List.map_cons, List.sum_cons, List.length_cons, List.length_nil] at ih ⊢
    omega
theorem may_facts (ls : List Fld) (h : mayF ls = true) : ls.length ≤ 32 ∧ (∀ f ∈ ls, lineOk f = true) ∧ sumL ls ≤ 2048 := by
  unfold mayF at h
  simp only [Bool.and_eq_true, decide_eq_true_eq, List.all_eq_true] at h
  exact h
/-- What Put tells: nil and ErrArg; or bytes in new memory. -/
def PutGot (r : Option (List UInt8)) (w : World) (e : Ending) (w' : World) : Prop :=
  Below w.heap.size w w' ∧ match r with
    | none => e = .returned (.tuple #[.slice none 0 0, .int .i64 1])
    | some l => ∃ g cap, e = .returned (.tuple #[.slice (some ⟨g, 0, none⟩) l.length cap, .int .i64 0]) ∧ Row w' g l ∧ w.heap.size ≤ g

set_option maxHeartbeats 4000000 in
set_option maxRecDepth 100000 in
theorem rput_any {P : Nat → Prop} (w : World) (A : Option Addr) (ls : List Fld) (n c : Nat) (hn : ls.length = n) (hmax : n ≤ 140737488351232) (h : SrcF w P A ls) (hs : Slim ls) :
    Calls Tryd.prog 15 #[.slice A n c] w (PutGot (putF ls) w) := by
  have CM := Lib.hid (rmay_any w A ls n c hn hmax h hs)
  by_cases hm : mayF ls = true
  · have HP := Lib.hid (show putF ls = some (linesF ls ++ [13, 10]) from if_pos hm)
    obtain ⟨m1, m2, m3⟩ := may_facts ls hm
    have HL := Lib.hid (linesF_length ls)
    have HN := Lib.hid hn
    have H := Lib.hid h
    have HM2 := Lib.hid m2
    have HM3 := Lib.hid m3
    rw [hm] at CM
    have hn32 : n ≤ 32 := by omega
    clear h hs hn hm m1 m2 m3 hmax
    generalize putF ls = r at *
    go_enter Tryd.func15, Tryd.ntmps15
    go_wp2_with fail
    refine CM.out.mono ?_
    rintro e w1 ⟨rfl, b1⟩
    have B1 := Lib.hid b1
    clear b1 CM
    go_wp2_with fail
    go_loopw [4, 5] (fun vs vi wr => ∃ (k : Nat) (l : List UInt8), vs = .string ⟨l.toArray⟩ ∧ vi = .int .i64 (k : Int) ∧ k ≤ n ∧ l.length ≤ 2046 ∧ Hid (linesF (ls.take k) = l) ∧ Hid (Below w.heap.size w wr)) (fun _ vi _ => n - (intOf vi).toNat)
    case atStart => exact ⟨0, [], rfl, rfl, Nat.zero_le _, by simp, Lib.hid rfl, B1⟩
    case round =>
      obtain ⟨k, l, rfl, rfl, hk, hl, HI, HB⟩ := hrel
      by_cases hlt : k < n
      · obtain ⟨p, f, hf, hat, y0, y1, _, _⟩ := H.out.at (c := c) HN.out hlt HB.out
        have HX := Lib.hid (show linesF (ls.take (k + 1)) = l ++ (f.1 ++ ([58, 32] ++ (f.2 ++ [13, 10]))) by rw [take_snoc ls k f hf, linesF_snoc, HI.out])
        have hll := sumL_take ls (k + 1)
        have hl2 := linesF_length (ls.take (k + 1))
        rw [HX.out] at hl2
        simp only [List.length_append, List.length_cons, List.length_nil] at hl2
        have h3 := HM3.out
        obtain ⟨f1, f2⟩ := f
        simp only at *
        have z1 : ¬ 9223372036854775807 < l.length + f1.length := by omega
        have z2 : ¬ 9223372036854775807 < l.length + f1.length + 2 := by omega
        have z3 : ¬ 9223372036854775807 < l.length + f1.length + 2 + f2.length := by omega
        have z4 : ¬ 9223372036854775807 < l.length + f1.length + 2 + f2.length + 2 := by omega
        have z5 : l.length + f1.length + f2.length + 4 ≤ 2046 := by omega
        clear hf hll hl2 h3
        go_wp2_with fail
        go_quiet (fail)
        go_wp2_with fail
        go_roundw
        case rel => exact ⟨k + 1, l ++ (f1 ++ ([58, 32] ++ (f2 ++ [13, 10]))), by rw [show (⟨#[58, 32]⟩ : ByteArray) = ⟨[58, 32].toArray⟩ from rfl, show (⟨#[13, 10]⟩ : ByteArray) = ⟨[13, 10].toArray⟩ from rfl]; simp only [mk_append, List.append_assoc], by go_num, hlt, by simp; omega, HX, Lib.hid (below_drewN HB.out _)⟩
        case measure => simp [intOf]; omega
      · have HQ := Lib.hid (show linesF ls = l by rw [← HI.out, List.take_of_length_le (by rw [HN.out]; omega)])
        have z1 : ¬ 9223372036854775807 < l.length + 2 := by omega
        obtain ⟨cap, w0, hcv, row0, b0, _⟩ := run_to_bytes wr ⟨(l ++ [13, 10]).toArray⟩
        have hz : (⟨(l ++ [13, 10]).toArray⟩ : ByteArray).size = l.length + 2 := by rw [← bl_length, bl_mk]; simp
        rw [hz] at hcv
        have hcv2 := hcv
        rw [← mk_append l [13, 10]] at hcv2
        rw [bl_mk] at row0
        have ROW := Lib.hid row0
        have B0 := Lib.hid (HB.out.trans (b0.mono HB.out.size))
        have HG := Lib.hid HB.out.size
        clear row0 b0 hz
        go_wp2_with fail
        go_ret2
        refine ⟨B0.out, ?_⟩
        rw [HP.out]
        exact ⟨wr.heap.size, cap, by rw [HQ.out]; simp, by rw [HQ.out]; exact ROW.out, HG.out⟩
  · have HP := Lib.hid (show putF ls = none from if_neg hm)
    rw [Bool.not_eq_true] at hm
    rw [hm] at CM
    clear h hs hn hm hmax
    generalize putF ls = r at *
    go_enter Tryd.func15, Tryd.ntmps15
    go_wp2_with fail
    refine CM.out.mono ?_
    rintro e w1 ⟨rfl, b1⟩
    have B1 := Lib.hid b1
    clear b1 CM
    go_wp2_with fail
    go_ret2
    refine ⟨B1.out, ?_⟩
    rw [HP.out]
    rfl
end Go.Proofs.YtdggfonbjhejoaaDoor
