/-
  Two lists of rules that a call builds beside one another; what rules admit, joined and sorted out.
  Conditions: those that each theorem names.
-/
import Derived.Test.YtcmnnidjamdmeaaDoorAI
namespace Go.Proofs.YtcmnnidjamdmeaaDoor.Acl
open Go.RowKit

theorem own_turn {W w w' : World} {o o' : Option Nat} (hb : Below W.heap.size W w) (hl : ∀ b, o = some b → W.heap.size ≤ b) (ht : Turn (fun k => o = some k) w w') (ho : ∀ k, o' = some k → o = some k ∨ w.heap.size ≤ k) : Below W.heap.size W w' ∧ ∀ b, o' = some b → W.heap.size ≤ b := by
  refine ⟨⟨ht.os.trans hb.os, ht.tape.trans hb.tape, ht.output.trans hb.output, Nat.le_trans hb.size ht.size, fun k hk => ?_⟩, fun b h => ?_⟩
  · have hs := hb.size
    exact (ht.block k (by omega) (fun e => by have := hl k e; omega)).trans (hb.block k hk)
  · have hs := hb.size
    rcases ho b h with h | h
    · exact hl b h
    · omega
structure Duo (W w : World) (v : Value) (o : Option Nat) (l : List RuE) (v1 : Value) (o1 : Option Nat) (l1 : List RuE) : Prop where
  own : OwnU w v o l
  own1 : OwnU w v1 o1 l1
  low : ∀ b, o = some b → W.heap.size ≤ b
  low1 : ∀ b, o1 = some b → W.heap.size ≤ b
  ap : ∀ b, o = some b → o1 ≠ some b
  bel : Below W.heap.size W w
theorem Duo.swap {W w : World} {v v1 : Value} {o o1 : Option Nat} {l l1 : List RuE} (h : Duo W w v o l v1 o1 l1) : Duo W w v1 o1 l1 v o l :=
  ⟨h.own1, h.own, h.low1, h.low, fun b hb e => h.ap b e hb, h.bel⟩
theorem Duo.below {W w w' : World} {v v1 : Value} {o o1 : Option Nat} {l l1 : List RuE} (h : Duo W w v o l v1 o1 l1) (hb : Below w.heap.size w w') : Duo W w' v o l v1 o1 l1 :=
  ⟨h.own.below hb, h.own1.below hb, h.low, h.low1, h.ap, h.bel.trans (hb.mono h.bel.size)⟩
theorem Duo.start (W w : World) (hb : Below W.heap.size W w) : Duo W w (.slice none 0 0) none [] (.slice none 0 0) none [] :=
  ⟨OwnU.nil w, OwnU.nil w, fun _ h => (by cases h), fun _ h => (by cases h), fun _ h => (by cases h), hb⟩
/-- append(v, news...). -/
theorem Duo.app {P : Nat → Prop} {W w : World} {v v1 : Value} {o o1 : Option Nat} {l l1 : List RuE} (h : Duo W w v o l v1 o1 l1) (news : List RuE) (A : Option Addr) (n c : Nat) (hn : news.length = n) (hs : SrcU w P A news) (hlen : (l.length + news.length) * 64 ≤ 140737488355328) :
    ∃ (v' : Value) (w' : World) (o' : Option Nat), (Builtin.append_ #[22, 22] 22 #[v, .slice A n c]).run Tryd.prog w = .ok v' w' ∧ Duo W w' v' o' (l ++ news) v1 o1 l1 := by
  obtain ⟨v', w', o', hrun, own', t', ho'⟩ := run_append_rus w v o l news h.own A n c hn hs hlen
  have l1' : ∀ b, o1 = some b → b < w.heap.size := fun b hb => h.own1.lt b hb
  obtain ⟨hb, hl⟩ := own_turn h.bel h.low t' ho'
  refine ⟨v', w', o', hrun, own', h.own1.kept t' (fun k hk e => h.ap k e hk), hl, h.low1, fun b hb e => ?_, hb⟩
  rcases ho' b hb with h1 | h1
  · exact h.ap b h1 e
  · have := l1' b e; omega
/-- append(v, x), x laid anew. -/
theorem Duo.push {W w : World} {v v1 : Value} {o o1 : Option Nat} {l l1 : List RuE} (h : Duo W w v o l v1 o1 l1) (r : RuE) (hlen : l.length ≤ 1000000000) :
    ∃ (v' : Value) (w' : World) (o' : Option Nat), (Builtin.append_ #[22, 22] 22 #[v, .slice (some ⟨w.heap.size, 0, none⟩) 1 1]).run Tryd.prog (w.alloc (.cells #[.bool r.al, .string r.h, .int .i64 r.lo, .int .i64 r.hi, .slice r.A r.n r.c] 25)) = .ok v' w' ∧ Duo W w' v' o' (l ++ [r]) v1 o1 l1 :=
  Duo.app (P := fun _ => True) (h.below ((Below.refl _ _).alloc (Nat.le_refl _) _)) [r] (some ⟨w.heap.size, 0, none⟩) 1 1 rfl (srcu_is Ok.box) (by simp; omega)

/-! ## What rules admit -/
section
variable {h m : List UInt8} {p : Int}
theorem find_app {α : Type} (q : α → Bool) (a b : List α) : (a ++ b).find? q = match a.find? q with | some x => some x | none => b.find? q := by
  rw [List.find?_append]
  cases a.find? q <;> rfl
theorem admit_app (a b : List RuE) : admitF (a ++ b) h p m = if a.any (matchF h p m) = true then admitF a h p m else admitF b h p m := by
  unfold admitF
  rw [find_app]
  cases hf : a.find? (matchF h p m) with
  | none =>
    have : a.any (matchF h p m) = false := by
      rw [List.any_eq_false]
      intro x hx
      have := List.find?_eq_none.1 hf x hx
      simpa using this
    rw [if_neg (by rw [this]; simp)]
  | some x =>
    have : a.any (matchF h p m) = true := List.any_eq_true.2 ⟨x, List.mem_of_find?_eq_some hf, List.find?_some hf⟩
    rw [if_pos this]
theorem admit_same (L : List RuE) (b : Bool) (hb : ∀ r ∈ L, r.al = b) (ha : L.any (matchF h p m) = true) : admitF L h p m = b := by
  unfold admitF
  cases hf : L.find? (matchF h p m) with
  | none =>
    obtain ⟨x, hx, hm⟩ := List.any_eq_true.1 ha
    have := List.find?_eq_none.1 hf x hx
    exact absurd hm this
  | some x => exact hb x (List.mem_of_find?_eq_some hf)
theorem admit_find {L : List RuE} (ha : admitF L h p m = true) : ∃ r ∈ L, r.al = true ∧ matchF h p m r = true := by
  unfold admitF at ha
  cases hf : L.find? (matchF h p m) with
  | none => rw [hf] at ha; cases ha
  | some x =>
    rw [hf] at ha
    exact ⟨x, List.mem_of_find?_eq_some hf, ha, List.find?_some hf⟩
/-- Those that match, and those that do not. -/
theorem admit_hits (L : List RuE) : admitF (L.filter (matchF h p m)) h p m = admitF L h p m := by
  unfold admitF
  rw [List.find?_filter]
  congr 1
  refine congrArg (fun f => List.find? f L) ?_
  funext r
  simp
theorem admit_sorted (L : List RuE) : admitF (L.filter (fun r => !matchF h p m r) ++ L.filter (matchF h p m)) h p m = admitF L h p m := by
  rw [admit_app, if_neg, admit_hits]
  rw [Bool.not_eq_true, List.any_eq_false]
  intro x hx
  have := (List.mem_filter.1 hx).2
  simpa using this
theorem admit_head (L : List RuE) (r : RuE) (l : List RuE) (hf : L.filter (matchF h p m) = r :: l) : admitF L h p m = r.al ∧ admitF [r] h p m = r.al := by
  have hr : matchF h p m r = true := by
    have : r ∈ L.filter (matchF h p m) := by rw [hf]; exact List.mem_cons_self ..
    exact (List.mem_filter.1 this).2
  refine ⟨?_, ?_⟩
  · rw [← admit_hits, hf]
    unfold admitF
    rw [List.find?_cons_of_pos hr]
  · unfold admitF
    rw [List.find?_cons_of_pos hr]
theorem any_hits (L : List RuE) (hf : L.filter (matchF h p m) = []) : L.any (matchF h p m) = false := by
  rw [List.any_eq_false]
  intro x hx hm
  have : x ∈ L.filter (matchF h p m) := List.mem_filter.2 ⟨hx, hm⟩
  rw [hf] at this
  cases this
theorem admit_cons (r : RuE) (L : List RuE) : admitF (r :: L) h p m = if matchF h p m r = true then r.al else admitF L h p m := by
  rw [show r :: L = [r] ++ L from rfl, admit_app]
  by_cases hm : matchF h p m r = true
  · rw [if_pos (by simpa using hm), if_pos hm]
    unfold admitF
    rw [List.find?_cons_of_pos hm]
  · rw [if_neg (by simpa using hm), if_neg hm]
/-- Those that deny ahead of those that allow. -/
def denF (L : List RuE) : List RuE := L.filter (fun r => !r.al)
def alwF (L : List RuE) : List RuE := L.filter (fun r => r.al)
theorem deny_first (L : List RuE) : admitF (denF L ++ alwF L) h p m = ((alwF L).any (matchF h p m) && !(denF L).any (matchF h p m)) := by
  rw [admit_app]
  cases hd : (denF L).any (matchF h p m) with
  | true =>
    rw [if_pos rfl, admit_same _ false (fun r hr => by have := (List.mem_filter.1 hr).2; simpa using this) hd]
    simp
  | false =>
    rw [if_neg (by simp)]
    cases ha : (alwF L).any (matchF h p m) with
    | true => exact admit_same _ true (fun r hr => (List.mem_filter.1 hr).2) ha
    | false => exact admit_none ha
theorem allow_some {L : List RuE} (ha : admitF L h p m = true) : (alwF L).any (matchF h p m) = true := by
  obtain ⟨r, hr, h1, h2⟩ := admit_find ha
  exact List.any_eq_true.2 ⟨r, List.mem_filter.2 ⟨hr, h1⟩, h2⟩
theorem admit_still {L : List RuE} (ha : (alwF L).any (matchF h p m) = true) (hd : (denF L).any (matchF h p m) = false) : admitF L h p m = true := by
  unfold admitF
  cases hf : L.find? (matchF h p m) with
  | none =>
    obtain ⟨x, hx, hm⟩ := List.any_eq_true.1 ha
    exact absurd hm (List.find?_eq_none.1 hf x (List.mem_filter.1 hx).1)
  | some x =>
    have hm := List.find?_some hf
    have hx := List.mem_of_find?_eq_some hf
    cases hal : x.al with
    | true => exact hal
    | false => exact absurd hm (List.any_eq_false.1 hd x (List.mem_filter.2 ⟨hx, by rw [hal]; rfl⟩))
end
end Go.Proofs.YtcmnnidjamdmeaaDoor.Acl
