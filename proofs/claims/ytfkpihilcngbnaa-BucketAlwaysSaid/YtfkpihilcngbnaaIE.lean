/-
  The reference's bucket, each function as one call: Look, Take, Left, New.
  Conditions: those that each theorem names.
-/
import Derived.Test.YtfkpihilcngbnaaIC
import Derived.Deep.RegionHeld3
import Derived.StillTailTactics
namespace Go.Proofs.Ytfkpihilcngbnaa.Buc
open Go.RowKit

/-- The reference's cells. -/
def Bk.rcells (x : Bk) : List Value := [.int .u64 x.r, .int .u64 x.b, .int .u64 x.l, .int .u64 x.t]
/-- A bucket of the reference's lies at block g. -/
def Rat (w : World) (g : Nat) (x : Bk) : Prop := Is w g 53 x.rcells

theorem Rat.c0 {w : World} {g : Nat} {x : Bk} (h : Rat w g x) : w.cell? ⟨g, 0, none⟩ = some (.int .u64 x.r) := h.cell 0
theorem Rat.c1 {w : World} {g : Nat} {x : Bk} (h : Rat w g x) : w.cell? ⟨g, 1, none⟩ = some (.int .u64 x.b) := h.cell 1
theorem Rat.c2 {w : World} {g : Nat} {x : Bk} (h : Rat w g x) : w.cell? ⟨g, 2, none⟩ = some (.int .u64 x.l) := h.cell 2
theorem Rat.c3 {w : World} {g : Nat} {x : Bk} (h : Rat w g x) : w.cell? ⟨g, 3, none⟩ = some (.int .u64 x.t) := h.cell 3

/-- What Look leaves. -/
def Looked (g : Nat) (x : Bk) (now : Nat) (w : World) (e : Ending) (w' : World) : Prop :=
  e = .returned (.tuple #[]) ∧ Rat w' g (x.look now) ∧ Turn (· = g) w w' ∧ w'.heap.size = w.heap.size

theorem rlook_none (g now : Nat) (x : Bk) (h : now ≤ x.t) (w : World) (hg : Rat w g x) : Calls Try.prog 19 #[.pointer (some ⟨g, 0, none⟩), .int .u64 now] w (Looked g x now w) := by
  have e : x.look now = x := by unfold Bk.look; rw [if_pos h]
  have c3 := hg.c3
  unfold Looked
  rw [e]
  have G := Lib.hid hg
  clear hg e
  go_enter Try.func19, Try.ntmps19
  go_wp2
  refine bodyPost_ret (results_none rfl _ _ _) rfl ?_
  exact ⟨rfl, G.out, Turn.refl _ _, rfl⟩

theorem rlook_some (g now : Nat) (x : Bk) (hx : x.Ok) (h : x.t < now) (hn : now ≤ 4503599627370496) (w : World) (hg : Rat w g x) : Calls Try.prog 19 #[.pointer (some ⟨g, 0, none⟩), .int .u64 now] w (Looked g x now w) := by
  have c0 := hg.c0
  have c1 := hg.c1
  have c2 := hg.c2
  have c3 := hg.c3
  have f2 : w.frozen? ⟨g, 2, none⟩ = false := Is.free hg 2
  have b3 : x.r * (now - x.t) ≤ 1000 * 4503599627370496 := Nat.mul_le_mul hx.r2 (by omega)
  have l2 := hx.l2
  have b2 := hx.b2
  obtain ⟨d, hd⟩ : ∃ d, now - x.t = d := ⟨_, rfl⟩
  obtain ⟨m, hm⟩ : ∃ m, x.r * d = m := ⟨_, rfl⟩
  obtain ⟨s, hs⟩ : ∃ s, x.l + m = s := ⟨_, rfl⟩
  rw [hd, hm] at b3
  have e1 : (now : Int) - (x.t : Int) = (d : Int) := by omega
  have e2 : (x.r : Int) * (d : Int) = (m : Int) := by rw [← hm]; rfl
  have e3 : (x.l : Int) + (m : Int) = (s : Int) := by omega
  have d2 : d ≤ 4503599627370496 := by omega
  have s2 : s ≤ 4503599628370496000 := by omega
  have wd : IntKind.u64.wrap (d : Int) = (d : Int) := by rw [IntKind.wrap_u64]; omega
  have wm : IntKind.u64.wrap (m : Int) = (m : Int) := by rw [IntKind.wrap_u64]; omega
  have ws : IntKind.u64.wrap (s : Int) = (s : Int) := by rw [IntKind.wrap_u64]; omega
  obtain ⟨M, hM⟩ : ∃ M, min s (1000 * x.b) = M := ⟨_, rfl⟩
  have HE : x.look now = { x with l := M, t := now } := by
    unfold Bk.look
    rw [if_neg (by omega), hd, hm, hs, hM]
  unfold Looked
  rw [HE]
  have G1 : Hid (Rat w.drew g x) := Lib.hid (Is.drew hg)
  have T1 : Hid (Turn (· = g) w w.drew) := Lib.hid ((Turn.refl _ w).drew)
  have Z1 : Hid (w.drew.heap.size = w.heap.size) := Lib.hid rfl
  have HM := Lib.hid hM
  clear hx hd hm hs hg HE hM
  go_enter Try.func19, Try.ntmps19
  go_wp2
  go_still_tail 16, (by kernel_rfl)
  change wpList _ _ _ _ _ w.drew
  generalize w.drew = w2 at *
  clear c0 c1 c2 c3 f2
  have f2 : w2.frozen? ⟨g, 2, none⟩ = false := Is.free G1.out 2
  have c2 : w2.cell? ⟨g, 2, none⟩ = some (.int .u64 x.l) := Is.cell G1.out 2
  have G2 : Hid (Is (w2.setCell ⟨g, 2, none⟩ (.int .u64 s)) g 53 [.int .u64 x.r, .int .u64 x.b, .int .u64 s, .int .u64 x.t]) := Lib.hid (Is.set G1.out 2 _)
  have T2 := Lib.hid (T1.out.setCell (p := ⟨g, 2, none⟩) (fun _ => rfl) (.int .u64 s))
  have Z2 := Lib.hid ((size_setCell w2 ⟨g, 2, none⟩ (.int .u64 s)).trans Z1.out)
  clear G1 T1 Z1
  go_wp2
  clear f2 c2
  have c1 : (w2.setCell ⟨g, 2, none⟩ (.int .u64 s)).cell? ⟨g, 1, none⟩ = some (.int .u64 x.b) := Is.cell G2.out 1
  have c2 : (w2.setCell ⟨g, 2, none⟩ (.int .u64 s)).cell? ⟨g, 2, none⟩ = some (.int .u64 s) := Is.cell G2.out 2
  generalize w2.setCell ⟨g, 2, none⟩ (.int .u64 s) = w3 at *
  go_quiet (fail)
  have c1 : (w3.drewN nq).cell? ⟨g, 1, none⟩ = some (.int .u64 x.b) := Is.cell G2.out 1
  have f2 : (w3.drewN nq).frozen? ⟨g, 2, none⟩ = false := Is.free G2.out 2
  have f3 : (w3.drewN nq).frozen? ⟨g, 3, none⟩ = false := Is.free G2.out 3
  have d2 : (w3.drewN nq).cell? ⟨g, 2, none⟩ = some (.int .u64 s) := Is.cell G2.out 2
  have d3 : (w3.drewN nq).cell? ⟨g, 3, none⟩ = some (.int .u64 x.t) := Is.cell G2.out 3
  have G3 := Lib.hid (Is.drewN G2.out nq)
  have T3 := Lib.hid (T2.out.drewN nq)
  have Z3 : Hid ((w3.drewN nq).heap.size = w.heap.size) := Z2
  generalize w3.drewN nq = w4 at *
  clear c2 G2 T2 Z2 e1 e2 e3 wd wm ws
  obtain ⟨F, hF⟩ : ∃ F, 1000 * x.b = F := ⟨_, rfl⟩
  have eF : (1000 : Int) * (x.b : Int) = (F : Int) := by omega
  rw [hF] at HM l2
  by_cases hc : F < s
  · have G4 : Hid (Is (w4.setCell ⟨g, 2, none⟩ (.int .u64 F)) g 53 [.int .u64 x.r, .int .u64 x.b, .int .u64 F, .int .u64 x.t]) := Lib.hid (Is.set G3.out 2 _)
    have T4 := Lib.hid (T3.out.setCell (p := ⟨g, 2, none⟩) (fun _ => rfl) (.int .u64 F))
    have Z4 := Lib.hid ((size_setCell w4 ⟨g, 2, none⟩ (.int .u64 F)).trans Z3.out)
    have f4 : (w4.setCell ⟨g, 2, none⟩ (.int .u64 F)).frozen? ⟨g, 3, none⟩ = false := Is.free G4.out 3
    have hM : M = F := by have := HM.out; omega
    have d4 : (w4.setCell ⟨g, 2, none⟩ (.int .u64 F)).cell? ⟨g, 3, none⟩ = some (.int .u64 x.t) := Is.cell G4.out 3
    have G5 := Lib.hid (Is.set G4.out 3 (.int .u64 now))
    have T5 := Lib.hid (T4.out.setCell (p := ⟨g, 3, none⟩) (fun _ => rfl) (.int .u64 now))
    have Z5 := Lib.hid ((size_setCell (w4.setCell ⟨g, 2, none⟩ (.int .u64 F)) ⟨g, 3, none⟩ (.int .u64 now)).trans Z4.out)
    subst hM
    clear hF G4 T4 Z4 HM G3 T3 Z3
    go_wp2
    refine bodyPost_end (results_none rfl _ _ _) rfl ?_
    exact ⟨rfl, G5.out, T5.out, Z5.out⟩
  · have hM : M = s := by have := HM.out; omega
    have G5 := Lib.hid (Is.set G3.out 3 (.int .u64 now))
    have T5 := Lib.hid (T3.out.setCell (p := ⟨g, 3, none⟩) (fun _ => rfl) (.int .u64 now))
    have Z5 := Lib.hid ((size_setCell w4 ⟨g, 3, none⟩ (.int .u64 now)).trans Z3.out)
    subst hM
    clear hF HM G3 T3 Z3
    go_wp2
    refine bodyPost_end (results_none rfl _ _ _) rfl ?_
    exact ⟨rfl, G5.out, T5.out, Z5.out⟩
end Go.Proofs.Ytfkpihilcngbnaa.Buc
