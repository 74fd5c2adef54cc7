/-
  Plain mathematics of layer 12's laws: with more fields nothing is unsaid; the law's less.
  Conditions: those that each theorem names.
-/
import Derived.Test.YtkccmjeabkfmdaaDoorEL
namespace Go.Proofs.YtkccmjeabkfmdaaDoor.Con
open Go.RowKit Hop

def lessB (now was : Int) : Bool := decide (was < 0) || (decide (0 ≤ now) && decide (now ≤ was))
theorem less_any (a b : Int) (w : World) (h : lessB a b = true) : Calls Tryd.prog 13 #[.int .i64 a, .int .i64 b] w fun e w' => e = .returned (.bool true) ∧ w' = w := by
  unfold lessB at h
  by_cases h1 : b < 0
  · clear h
    go_enter Tryd.func13, Tryd.ntmps13
    go_wp2_with fail
    go_ret
    exact ⟨rfl, rfl⟩
  · have h2 : 0 ≤ a ∧ a ≤ b := by simpa [h1] using h
    obtain ⟨h3, h4⟩ := h2
    clear h
    go_enter Tryd.func13, Tryd.ntmps13
    go_wp2_with fail
    go_ret
    exact ⟨rfl, rfl⟩

theorem said_app (a b : List Dir) (k : List UInt8) : saidB (a ++ b) k = (saidB a k || saidB b k) := by simp [saidB]
theorem said_more (a b : List Dir) (k : List UInt8) (h : saidB a k = true) : saidB (a ++ b) k = true := by rw [said_app, h]; rfl
theorem fold_more (mx : Bool) (k : List UInt8) : ∀ (b : List Dir) (x : Nat), ∃ y, b.foldl (sayStep mx k) (some x) = some y ∧ ((mx && k == freshN) = true → x ≤ y) ∧ ((mx && k == freshN) = false → y ≤ x)
  | [], x => ⟨x, rfl, fun _ => Nat.le_refl _, fun _ => Nat.le_refl _⟩
  | p :: r, x => by
    rw [List.foldl_cons]
    unfold sayStep
    by_cases hp : (p.1 == k) = true
    · rw [if_pos hp]
      obtain ⟨y, h1, h2, h3⟩ := fold_more mx k r (pickO mx k (numD p) x)
      refine ⟨y, h1, fun hm => ?_, fun hm => ?_⟩
      · have := h2 hm
        unfold pickO at this
        rw [if_pos hm] at this
        omega
      · have := h3 hm
        unfold pickO at this
        rw [if_neg (by rw [hm]; simp)] at this
        omega
    · rw [if_neg hp]
      exact fold_more mx k r x
theorem say_more (mx : Bool) (a b : List Dir) (k : List UInt8) (x : Nat) (h : sayF mx a k = some x) : ∃ y, sayF mx (a ++ b) k = some y ∧ ((mx && k == freshN) = true → x ≤ y) ∧ ((mx && k == freshN) = false → y ≤ x) := by
  unfold sayF at *
  rw [List.foldl_append, h]
  exact fold_more mx k b x
theorem nF_less (mx : Bool) (a b : List Dir) (k : List UInt8) (hk : (mx && k == freshN) = false) : lessB (nF mx (a ++ b) k) (nF mx a k) = true := by
  unfold nF lessB
  cases h : sayF mx a k with
  | none => rfl
  | some x =>
    obtain ⟨y, h1, _, h3⟩ := say_more mx a b k x h
    have h3 := h3 hk
    rw [h1]
    have e1 : (0 : Int) ≤ (y : Int) := by omega
    have e2 : (y : Int) ≤ (x : Int) := by omega
    simp [intO, e1, e2]
theorem nF_grows (a b : List Dir) : nF true a freshN ≤ nF true (a ++ b) freshN := by
  unfold nF
  cases h : sayF true a freshN with
  | none =>
    have : ∀ o : Option Nat, (-1 : Int) ≤ intO o := fun o => by cases o <;> simp [intO]
    exact this _
  | some x =>
    obtain ⟨y, h1, h2, _⟩ := say_more true a b freshN x h
    have h2 := h2 (by decide)
    rw [h1]
    simp only [intO]
    omega
theorem dirs_two (ls more : List Fld) : dirsF (elemF (ls ++ more) ccN) = dirsF (elemF ls ccN) ++ dirsF (elemF more ccN) := by rw [elem_app, dirs_app]
/-- What a request's fields say, and with more of them. -/
structure MoreQ (a b : Ctl) (q : Nat) : Prop where
  ns : a.ns = true → b.ns = true
  on : a.on = true → b.on = true
  nc : a.nc = true → b.nc = true ∨ q ≠ 0
  ma : lessB b.ma a.ma = true
  ms : lessB b.ms a.ms = true
  mf : a.mf ≤ b.mf
  sh : a.sh = -1
  pv : a.pv = false
  pb : a.pb = false
  mu : a.mu = false
theorem more_req (ls more : List Fld) : MoreQ (requestF ls) (requestF (ls ++ more)) (elemF ls prN).length := by
  unfold requestF
  rw [dirs_two]
  refine ⟨said_more _ _ _, said_more _ _ _, fun h => ?_, nF_less true _ _ _ (by decide), nF_less true _ _ _ (by decide), nF_grows _ _, rfl, rfl, rfl, rfl⟩
  simp only [reqD, Bool.or_eq_true] at h ⊢
  rcases h with h | h
  · exact .inl (.inl (said_more _ _ _ h))
  · right
    intro h0
    have e := List.eq_nil_of_length_eq_zero h0
    unfold oldB at h
    rw [e] at h
    simp [pragB] at h
structure MoreS (c d : Ctl) : Prop where
  ns : c.ns = true → d.ns = true
  nc : c.nc = true → d.nc = true
  pv : c.pv = true → d.pv = true
  pb : c.pb = true → d.pb = true
  mu : c.mu = true → d.mu = true
  ma : lessB d.ma c.ma = true
  sh : lessB d.sh c.sh = true
  mf : c.mf = -1
  ms : c.ms = -1
  on : c.on = false
theorem more_res (ls more : List Fld) : MoreS (responseF ls) (responseF (ls ++ more)) := by
  unfold responseF
  rw [dirs_two]
  refine ⟨said_more _ _ _, said_more _ _ _, said_more _ _ _, said_more _ _ _, fun h => ?_, nF_less false _ _ _ rfl, nF_less false _ _ _ rfl, rfl, rfl, rfl⟩
  simp only [resD, Bool.or_eq_true] at h ⊢
  rcases h with h | h
  · exact .inl (said_more _ _ _ h)
  · exact .inr (said_more _ _ _ h)
end Go.Proofs.YtkccmjeabkfmdaaDoor.Con
