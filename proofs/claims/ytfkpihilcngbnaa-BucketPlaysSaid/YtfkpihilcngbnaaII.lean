/-
  Buckets, plainly: who waits is told true; as many as Left tells; never more than burst and what grew.
  Conditions: those that each theorem names.
-/
import Derived.Test.YtfkpihilcngbnaaIC
namespace Go.Proofs.Ytfkpihilcngbnaa.Buc
open Go.RowKit

theorem look_r (x : Bk) (now : Nat) : (x.look now).r = x.r := by unfold Bk.look; split <;> rfl
theorem look_b (x : Bk) (now : Nat) : (x.look now).b = x.b := by unfold Bk.look; split <;> rfl
theorem look_t (x : Bk) (now : Nat) (h : x.t ≤ now) : (x.look now).t = now := by
  unfold Bk.look
  split
  · omega
  · rfl
theorem look_le (x : Bk) (now : Nat) : (x.look now).l ≤ x.l + x.r * (now - x.t) := by
  unfold Bk.look
  split
  · exact Nat.le_add_right _ _
  · exact Nat.min_le_left _ _
theorem less_r (x : Bk) : x.less.r = x.r := by simp only [Bk.less]
theorem less_b (x : Bk) : x.less.b = x.b := by simp only [Bk.less]
theorem less_t (x : Bk) : x.less.t = x.t := by simp only [Bk.less]
theorem less_l (x : Bk) : x.less.l = x.l - 1000 := by simp only [Bk.less]
theorem take_r (x : Bk) (now : Nat) : (x.take now).r = x.r := by
  unfold Bk.take
  split
  · rw [less_r, look_r]
  · exact look_r x now
theorem take_b (x : Bk) (now : Nat) : (x.take now).b = x.b := by
  unfold Bk.take
  split
  · rw [less_b, look_b]
  · exact look_b x now
theorem take_t (x : Bk) (now : Nat) (h : x.t ≤ now) : (x.take now).t = now := by
  unfold Bk.take
  split
  · rw [less_t, look_t x now h]
  · exact look_t x now h

/-- Who waits so long is told true. -/
theorem waits (y : Bk) (hy : y.Ok) (now z : Nat) (ht : y.t ≤ now) (hz : 1 ≤ z) (hr : 1000 ≤ y.r * z) : y.has (now + z) = true := by
  refine decide_eq_true ?_
  unfold Bk.look
  rw [if_neg (by omega)]
  have h1 : y.r * z ≤ y.r * (now + z - y.t) := Nat.mul_le_mul_left _ (by omega)
  have h2 := hy.b1
  show 1000 ≤ min (y.l + y.r * (now + z - y.t)) (1000 * y.b)
  generalize y.r * (now + z - y.t) = q at *
  omega

/-- j tokens fewer. -/
def Bk.drop (y : Bk) (j : Nat) : Bk := { y with l := y.l - 1000 * j }
theorem drop_none (y : Bk) : y.drop 0 = y := rfl
theorem less_drop (y : Bk) (j : Nat) : (y.drop j).less = y.drop (j + 1) := by
  unfold Bk.drop Bk.less
  have e : y.l - 1000 * j - 1000 = y.l - 1000 * (j + 1) := by omega
  simp only [e]
theorem look_at (x : Bk) (now : Nat) : now ≤ (x.look now).t := by
  unfold Bk.look
  split
  · next h => exact h
  · exact Nat.le_refl _
theorem look_drop (x : Bk) (now j : Nat) : ((x.look now).drop j).look now = (x.look now).drop j := by
  have h := look_at x now
  generalize x.look now = y at *
  have h' : now ≤ (y.drop j).t := h
  generalize y.drop j = z at *
  unfold Bk.look
  rw [if_pos h']
theorem drop_has (x z : Bk) (now j : Nat) (hz : z.look now = (x.look now).drop j) (hj : j < x.left now) : z.has now = true := by
  refine decide_eq_true ?_
  rw [hz]
  unfold Bk.left at hj
  generalize x.look now = y at *
  show 1000 ≤ y.l - 1000 * j
  omega
theorem drop_last (x z : Bk) (now : Nat) (hz : z.look now = (x.look now).drop (x.left now)) : z.has now = false := by
  refine decide_eq_false ?_
  rw [hz]
  unfold Bk.left
  generalize x.look now = y at *
  show ¬ 1000 ≤ y.l - 1000 * (y.l / 1000)
  omega
theorem drop_take (x z : Bk) (now j : Nat) (hz : z.look now = (x.look now).drop j) (hj : j < x.left now) : (z.take now).look now = (x.look now).drop (j + 1) := by
  unfold Bk.take
  rw [drop_has x z now j hz hj, if_pos rfl, hz, less_drop, look_drop]
theorem left_le (x : Bk) (hx : x.Ok) (now : Nat) (hn : now ≤ 4503599627370496) : x.left now ≤ x.b := by
  have h := (hx.look hn).l2
  rw [look_b] at h
  unfold Bk.left
  generalize (x.look now).l = l at *
  omega

/-- What is taken is paid for. -/
structure Pay (x : Bk) (taken began now : Nat) : Prop where
  time : x.t = now
  ahead : began ≤ now
  paid : 1000 * taken + x.l ≤ 1000 * x.b + x.r * (now - began)

theorem take_pays (x : Bk) (now : Nat) : 1000 * (x.has now).toNat + (x.take now).l = (x.look now).l := by
  unfold Bk.take
  cases h : x.has now with
  | true =>
    have h' : 1000 ≤ (x.look now).l := of_decide_eq_true h
    rw [if_pos rfl]
    rw [less_l]
    generalize (x.look now).l = l at *
    show 1000 * 1 + (l - 1000) = l
    omega
  | false =>
    rw [if_neg (by simp)]
    show 1000 * 0 + (x.look now).l = (x.look now).l
    omega

theorem Pay.step {x : Bk} {taken began now : Nat} (h : Pay x taken began now) (d : Nat) : Pay (x.take (now + d)) (taken + (x.has (now + d)).toNat) began (now + d) := by
  obtain ⟨ht, ha, hp⟩ := h
  refine ⟨take_t x _ (by omega), by omega, ?_⟩
  have h1 := take_pays x (now + d)
  have h2 := look_le x (now + d)
  rw [take_b, take_r]
  have e : now + d - began = (now - began) + (now + d - x.t) := by omega
  rw [e, Nat.mul_add x.r]
  generalize x.r * (now + d - x.t) = p at *
  generalize x.r * (now - began) = q at *
  omega

theorem Pay.start {x : Bk} (hx : x.Ok) (now : Nat) (hn : now ≤ 4503599627370496) (ht : x.t ≤ now) : Pay (x.take now) (x.has now).toNat now now := by
  refine ⟨take_t x _ ht, Nat.le_refl _, ?_⟩
  have h1 := take_pays x now
  have h2 := (hx.look hn).l2
  rw [look_b] at h2
  rw [take_b, Nat.sub_self, Nat.mul_zero]
  omega

theorem Pay.most {x : Bk} {taken began now : Nat} (h : Pay x taken began now) : taken ≤ x.b + x.r * (now - began) / 1000 := by
  have := h.paid
  generalize x.r * (now - began) = q at *
  omega
end Go.Proofs.Ytfkpihilcngbnaa.Buc
