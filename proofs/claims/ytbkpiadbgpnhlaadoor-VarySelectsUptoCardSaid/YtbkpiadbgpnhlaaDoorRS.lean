/-
  Slices of texts; what the reference's Equal answers.
  Conditions: those that each theorem names.
-/
import Derived.Test.YtbkpiadbgpnhlaaDoorRC
namespace Go.Proofs.YtbkpiadbgpnhlaaDoor
open Go.RowKit

def strV (l : List UInt8) : Value := .string ⟨l.toArray⟩
def strs (ls : List (List UInt8)) : List Value := ls.map strV
theorem strs_length (ls : List (List UInt8)) : (strs ls).length = ls.length := by simp [strs]
theorem strs_one (ls : List (List UInt8)) : ∀ v ∈ strs ls, v.oneCell' = true := by
  intro v hv
  obtain ⟨c, _, rfl⟩ := List.mem_map.1 hv
  rfl

/-- The slice value v is the call's own, at block o (none: nil), and has the texts ls. -/
def OwnS (w : World) (v : Value) (o : Option Nat) (ls : List (List UInt8)) : Prop := w.ownsRow 0 9 1 v ls.length (strs ls) ∧ v.ownBlock = o
/-- A slice value's address reads the texts ls, and lies in a block of which P holds. -/
def SrcS (w : World) (P : Nat → Prop) (A : Option Addr) (ls : List (List UInt8)) : Prop :=
  0 < ls.length → ∃ ad : Addr, A = some ad ∧ P ad.block ∧ ad.block < w.heap.size ∧ ∀ i l, ls[i]? = some l → w.cell? (ad.add i) = some (strV l)

theorem OwnS.nil (w : World) : OwnS w (.slice none 0 0) none [] := ⟨⟨by simp [strs], .inl ⟨rfl, rfl⟩⟩, rfl⟩
theorem OwnS.kept {w w' : World} {v : Value} {o : Option Nat} {ls : List (List UInt8)} {S : Nat → Prop} (h : OwnS w v o ls) (ht : Turn S w w') (hS : ∀ k, o = some k → ¬ S k) : OwnS w' v o ls := by
  obtain ⟨⟨h1, h2⟩, h3⟩ := h
  refine ⟨⟨h1, ?_⟩, h3⟩
  rcases h2 with h2 | ⟨g, cap, cur, hv, hg, hh, r⟩
  · exact .inl h2
  · refine .inr ⟨g, cap, cur, hv, hg, ?_, r⟩
    have hlt : g < w.heap.size := (Array.getElem?_eq_some_iff.1 hh).1
    rw [ht.block g hlt (hS g (by rw [← h3, hv]; rfl))]
    exact hh
theorem OwnS.src {w : World} {v : Value} {o : Option Nat} {ls : List (List UInt8)} (h : OwnS w v o ls) (P : Nat → Prop) (hP : ∀ k, o = some k → P k) : ∃ A c, v = .slice A ls.length c ∧ SrcS w P A ls := by
  obtain ⟨⟨h1, h2⟩, h3⟩ := h
  rcases h2 with ⟨hv, hn⟩ | ⟨g, cap, cur, hv, hg, hh, hnc, _, hsz, htk⟩
  · refine ⟨none, 0, by rw [hv, hn], fun h => ?_⟩
    omega
  · refine ⟨some ⟨g, 0, none⟩, cap, hv, fun _ => ⟨_, rfl, hP g (by rw [← h3, hv]; rfl), (Array.getElem?_eq_some_iff.1 hh).1, fun i l hl => ?_⟩⟩
    rw [add_at, Nat.zero_add, cell_of_row w g i cur 9 (0, 0) hh, ← Array.getElem?_toList]
    have hu : (strs ls)[i]? = some (strV l) := by simp [strs, hl]
    rw [← htk, List.getElem?_take] at hu
    split at hu
    · exact hu
    · cases hu

theorem strInfo : (Tryd.prog.info? 9).map (fun i => (i.zero, i.size, i.bytes)) = some (some (.string ⟨#[]⟩), 1, 16) := by kernel_rfl
theorem strSize : (Tryd.prog.info? 9).map (·.size) = some 1 := by kernel_rfl
theorem strParts : ∃ i, Tryd.prog.info? 9 = some i ∧ i.zero = some (.string ⟨#[]⟩) ∧ i.size = 1 ∧ i.bytes = 16 := by
  obtain ⟨i, hi, h⟩ := Option.map_eq_some_iff.1 strInfo
  simp only [Prod.mk.injEq] at h
  exact ⟨i, hi, h.1, h.2.1, h.2.2⟩

/-- append(v, x), x laid down in a block of one cell. -/
theorem run_push_str (w : World) (v : Value) (o : Option Nat) (ls : List (List UInt8)) (x : List UInt8) (h : OwnS w v o ls) (hlen : (ls.length + 1) * 16 ≤ 140737488355328) :
    ∃ (v' : Value) (w' : World) (o' : Option Nat), (Builtin.append_ #[23, 23] 23 #[v, .slice (some ⟨w.heap.size, 0, none⟩) 1 1]).run Tryd.prog (w.alloc (.cells #[.string ⟨x.toArray⟩] 9)) = .ok v' w' ∧ OwnS w' v' o' (ls ++ [x]) ∧
      Turn (fun k => o = some k) w w' ∧ (∀ k, o' = some k → o = some k ∨ w.heap.size ≤ k) := by
  have t0 : Turn (fun _ => False) w (w.alloc (.cells #[.string ⟨x.toArray⟩] 9)) := (Turn.refl _ _).alloc _
  have hi : Is (w.alloc (.cells #[.string ⟨x.toArray⟩] 9)) w.heap.size 9 [strV x] := Is.made w 9 [strV x]
  obtain ⟨i, hin, hz, hsz, hby⟩ := strParts
  obtain ⟨hown, ho⟩ := h.kept t0 (fun _ _ h => h)
  obtain ⟨v', w', hrun, h2, h3, _, h5⟩ := run_append_own_at (P := Tryd.prog) (w.alloc (.cells #[.string ⟨x.toArray⟩] 9)) 0 23 23 9 i (.string ⟨#[]⟩) 1 16 Tryd.underlying23 hin hz hsz hby rfl (by omega) v ls.length (strs ls) hown ⟨w.heap.size, 0, none⟩ 1 1 [strV x]
    rfl (fun j u hu => by rw [add_at, Nat.zero_add, hi.cell]; exact hu) (fun u hu => by simp at hu; subst hu; rfl) (by simp only [maxLen]; omega) (by omega) (Nat.zero_le _)
  refine ⟨v', w', v'.ownBlock, hrun, ⟨?_, rfl⟩, (t0.mono (fun _ _ h => h.elim)).trans (Turn.of_grown (S := fun k => o = some k) h3 (fun k hk => by rw [← ho]; exact hk)) (fun _ _ h => h), fun k hk => ?_⟩
  · rw [List.length_append, strs, List.map_append]
    exact h2
  · rcases h5 with h | h
    · left; rw [← ho, ← h, hk]
    · right
      rw [h] at hk
      injection hk with hk
      simp at hk
      omega

theorem Quiet.more {a b c : World} (h : Quiet a b) (h' : Quiet b c) : Quiet a c := by
  obtain ⟨n, rfl⟩ := h
  obtain ⟨k, rfl⟩ := h'
  exact ⟨n + k, by rw [World.drewN_drewN]⟩

set_option maxHeartbeats 1000000 in
set_option maxRecDepth 100000 in
theorem equal_lists {P P' : Nat → Prop} (w : World) (A A' : Option Addr) (ls ls' : List (List UInt8)) (n n' c c' : Nat) (hn : ls.length = n) (hn' : ls'.length = n') (hmax : n ≤ 140737488351232) (h : SrcS w P A ls) (h' : SrcS w P' A' ls') :
    Calls Tryd.prog 11 #[.slice A n c, .slice A' n' c'] w fun e w' => e = .returned (.bool (ls == ls')) ∧ Quiet w w' := by
  by_cases hne : n = n'
  · subst hne
    have e0 : ((n : Int) != (n : Int)) = false := by simp
    have HN := Lib.hid hn
    have HN' := Lib.hid hn'
    clear hn hn'
    go_enter Tryd.func11, Tryd.ntmps11
    go_wp2
    go_loopw [5] (fun i wx => ∃ k : Nat, k ≤ n ∧ i = .int .i64 k ∧ ls.take k = ls'.take k ∧ Quiet w wx) (fun i _ => n - (intOf i).toNat)
    case atStart => exact ⟨0, Nat.zero_le _, rfl, rfl, 0, rfl⟩
    case round =>
      obtain ⟨k, hk, rfl, heq, hQ⟩ := hrel
      have HE := Lib.hid heq
      clear heq
      by_cases hlt : k < n
      · obtain ⟨a, hA, _, hlt1, hc⟩ := h (by rw [HN.out]; omega)
        obtain ⟨a', hA', _, hlt2, hc'⟩ := h' (by rw [HN'.out]; omega)
        obtain ⟨x, hx⟩ : ∃ x, ls[k]? = some x := ⟨ls[k]'(by rw [HN.out]; exact hlt), List.getElem?_eq_getElem _⟩
        obtain ⟨y, hy⟩ : ∃ y, ls'[k]? = some y := ⟨ls'[k]'(by rw [HN'.out]; exact hlt), List.getElem?_eq_getElem _⟩
        have hat := fun Wx => run_at 23 9 Tryd.underlying23 strSize a n c k hlt Wx
        have hat' := fun Wx => run_at 23 9 Tryd.underlying23 strSize a' n c' k hlt Wx
        rw [← hA] at hat
        rw [← hA'] at hat'
        have hb : (a.add k).block < w.heap.size := by unfold Addr.add; split <;> exact hlt1
        have hb' : (a'.add k).block < w.heap.size := by unfold Addr.add; split <;> exact hlt2
        have z : wr.cell? (a.add k) = some (.string ⟨x.toArray⟩) := (hQ.turn.cell hb (fun h => h)).trans (hc k x hx)
        have z' : wr.cell? (a'.add k) = some (.string ⟨y.toArray⟩) := (hQ.turn.cell hb' (fun h => h)).trans (hc' k y hy)
        generalize a.add k = p at *
        generalize a'.add k = p' at *
        have HX := Lib.hid hx
        have HY := Lib.hid hy
        clear hx hy hA hA' hc hc' hb hb' hlt1 hlt2
        by_cases hxy : x = y
        · have HT := Lib.hid (show ls.take (k + 1) = ls'.take (k + 1) by rw [List.take_add_one, List.take_add_one, HE.out, HX.out, HY.out, hxy])
          subst hxy
          go_wp2_with fail
          go_quiet (fail)
          go_wp2_with fail
          exact ⟨⟨k + 1, hlt, by simp, HT.out, Quiet.more hQ ⟨nq, rfl⟩⟩, by simp [intOf]; omega⟩
        · have hb : (x == y) = false := by simpa using hxy
          have HF := Lib.hid (show (ls == ls') = false by
            rw [beq_eq_false_iff_ne]
            intro e
            have h1 := HX.out
            rw [e, HY.out] at h1
            exact hxy (Option.some.inj h1.symm))
          clear hxy
          go_wp2_with fail
          go_quiet (fail)
          go_wp2_with fail
          go_ret
          exact ⟨by rw [HF.out]; rfl, Quiet.more hQ ⟨nq, rfl⟩⟩
      · have HF := Lib.hid (show (ls == ls') = true by
          have := HE.out
          rw [List.take_of_length_le (by rw [HN.out]; omega), List.take_of_length_le (by rw [HN'.out]; omega)] at this
          rw [this]
          simp)
        go_wp2_with fail
        go_ret
        exact ⟨by rw [HF.out]; rfl, hQ⟩
  · have e0 : ((n : Int) != (n' : Int)) = true := by simp; omega
    have HF := Lib.hid (show (ls == ls') = false by
      rw [beq_eq_false_iff_ne]
      intro e
      rw [e] at hn
      omega)
    clear hn hn' h h' hne
    go_enter Tryd.func11, Tryd.ntmps11
    go_wp2
    go_ret
    exact ⟨by rw [HF.out]; rfl, 0, rfl⟩
end Go.Proofs.YtbkpiadbgpnhlaaDoor
