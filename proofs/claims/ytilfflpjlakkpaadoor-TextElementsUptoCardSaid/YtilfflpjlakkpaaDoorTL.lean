/-
  What the laws of layer 2 answer, as calls: TextWords, TextLists, TextQuotes.
  Conditions: those that each theorem names.
-/
import Derived.Test.YtilfflpjlakkpaaDoorTW
namespace Go.Proofs.YtilfflpjlakkpaaDoor
open Go.RowKit

set_option maxRecDepth 100000 in
set_option maxHeartbeats 4000000 in
theorem words_true (s t : ByteArray) (w : World) (hs : s.size ≤ 140737488351232) (ht : t.size ≤ 140737488351232) : Calls Tryd.prog 3 #[.string s, .string t] w fun e w' => e = .returned (.bool true) ∧ Below w.heap.size w w' := by
  go_enter Tryd.func3, Tryd.ntmps3
  go_wp2_with fail
  refine (ty_token s w).mono ?_
  rintro e w1 ⟨rfl, b1⟩
  go_wp2_with fail
  refine (token_any s w1 (by unfold maxLen; omega)).mono ?_
  rintro e w' ⟨rfl, rfl⟩
  generalize tokF (bl s) = x1
  go_wp2_with fail
  refine (ty_visible s w1).mono ?_
  rintro e w2 ⟨rfl, b2⟩
  go_wp2_with fail
  refine (visible_any s w2 (by unfold maxLen; omega)).mono ?_
  rintro e w' ⟨rfl, rfl⟩
  generalize visF (bl s) = x2
  go_wp2_with fail
  refine (ty_trim s w2 hs).mono ?_
  rintro e w3 ⟨rfl, b3⟩
  go_wp2_with fail
  refine (trim_any s w3 (by omega)).mono ?_
  rintro e w' ⟨rfl, rfl⟩
  generalize trimF (bl s) = x3
  go_wp2_with fail
  refine (ty_lower s w3).mono ?_
  rintro e w4 ⟨rfl, b4⟩
  go_wp2_with fail
  refine (lower_any s w4 (by omega)).mono ?_
  rintro e w5 ⟨rfl, b5⟩
  go_wp2_with fail
  refine (ty_same s t w5).mono ?_
  rintro e w6 ⟨rfl, b6⟩
  go_wp2_with fail
  refine (same_any s t w6 (by omega) (by omega)).mono ?_
  rintro e w7 ⟨rfl, b7⟩
  generalize (lowF (bl s) == lowF (bl t)) = x4
  go_wp2_with fail
  refine (wakes_true w7).mono ?_
  rintro e w8 ⟨rfl, b8⟩
  go_wp2_with fail
  go_ret
  exact ⟨rfl, Below.more b1 (Below.more b2 (Below.more b3 (Below.more b4 (Below.more b5 (Below.more b6 (Below.more b7 b8))))))⟩

theorem equal_owned (w : World) (v v' : Value) (o o' : Option Nat) (ls ls' : List (List UInt8)) (h : OwnS w v o ls) (h' : OwnS w v' o' ls') (hn : ls.length ≤ 140737488351232) :
    Calls Tryd.prog 21 #[v, v'] w fun e w' => e = .returned (.bool (ls == ls')) ∧ Quiet w w' := by
  obtain ⟨A, c, rfl, hs⟩ := h.src (fun _ => True) (fun _ _ => trivial)
  obtain ⟨A', c', rfl, hs'⟩ := h'.src (fun _ => True) (fun _ _ => trivial)
  exact equal_lists w A A' ls ls' _ _ c c' rfl rfl hn hs hs'

theorem listFrom_length (b : List UInt8) : ∀ n f k, (listFrom b n f k).length + k ≤ b.length + 1 + (if b.length + 1 < k then k else 0)
  | 0, f, k => by simp [listFrom]; split <;> omega
  | n + 1, f, k => by
    rw [listFrom]
    by_cases h : k < b.length
    · rw [if_pos h]
      have hq := qskip_le (b.drop (k + 1))
      rw [List.length_drop] at hq
      split
      · have := listFrom_length b n f (k + 1 + qskip (b.drop (k + 1)))
        rw [if_neg (by omega)] at this ⊢
        omega
      · split
        · have := listFrom_length b n (k + 1) (k + 1)
          rw [List.length_append]
          rw [if_neg (by omega)] at this
          have e : (if b.length + 1 < k then k else 0) = 0 := if_neg (by omega)
          rw [e]
          split <;> simp <;> omega
        · have := listFrom_length b n f (k + 1)
          rw [if_neg (by omega)] at this ⊢
          omega
    · rw [if_neg h]
      split
      · split <;> simp <;> split <;> omega
      · simp
        split <;> omega
theorem listF_length (b : List UInt8) : (listF b).length ≤ b.length + 1 := by
  have := listFrom_length b (b.length + 2) 0 0
  rw [if_neg (by omega)] at this
  simpa [listF] using this

set_option maxRecDepth 100000 in
set_option maxHeartbeats 4000000 in
theorem lists_true (s : ByteArray) (w : World) (hs : s.size ≤ 1000000000) : Calls Tryd.prog 4 #[.string s] w fun e w' => e = .returned (.bool true) ∧ Below w.heap.size w w' := by
  have hl := listF_length (bl s)
  rw [bl_length] at hl
  have HL := Lib.hid hl
  clear hl
  go_enter Tryd.func4, Tryd.ntmps4
  go_wp2_with fail
  refine (tx_list s w hs).mono ?_
  rintro e w1 ⟨v1, o1, rfl, h1, ho1, b1⟩
  go_wp2_with fail
  refine (list_any s w1 hs).mono ?_
  rintro e w2 ⟨v2, o2, rfl, h2, ho2, b2⟩
  have h1' := h1.kept (Turn.of_below (S := fun _ => False) b2) (fun _ _ h => h)
  have C := Lib.hid (equal_owned w2 v1 v2 o1 o2 _ _ h1' h2 (by have := HL.out; omega))
  clear ho1 ho2 h1 h2 h1'
  go_wp2_with fail
  refine C.out.mono ?_
  rintro e w3 ⟨rfl, q3⟩
  have b3 : Below w2.heap.size w2 w3 := q3.turn.below (fun _ _ h => h)
  generalize listF (bl s) = x
  go_wp2_with fail
  refine (wakes_true w3).mono ?_
  rintro e w4 ⟨rfl, b4⟩
  go_wp2_with fail
  go_ret
  exact ⟨rfl, Below.more b1 (Below.more b2 (Below.more b3 b4))⟩

set_option maxRecDepth 100000 in
set_option maxHeartbeats 4000000 in
theorem quotes_true (s t : ByteArray) (w : World) (hs : s.size ≤ 1000000000) (ht : t.size ≤ 1000000000) : Calls Tryd.prog 5 #[.string s, .string t] w fun e w' => e = .returned (.bool true) ∧ Below w.heap.size w w' := by
  go_enter Tryd.func5, Tryd.ntmps5
  go_wp2_with fail
  refine (tx_unquote t w ht).mono ?_
  rintro e w1 ⟨rfl, b1⟩
  go_wp2_with fail
  refine (unquote_any t w1 (by omega)).mono ?_
  rintro e w2 ⟨rfl, b2⟩
  generalize unqF (bl t) = x1
  go_wp2_with fail
  refine (tx_pair t w2 ht).mono ?_
  rintro e w3 ⟨rfl, b3⟩
  go_wp2_with fail
  refine (pair_any t w3 (by omega)).mono ?_
  rintro e w4 ⟨rfl, b4⟩
  generalize pairF (bl t) = x2
  go_wp2_with fail
  refine (tx_quote s w4 hs).mono ?_
  rintro e w5 ⟨rfl, b5⟩
  go_wp2_with fail
  refine (quote_any s w5 (by omega)).mono ?_
  rintro e w6 ⟨rfl, b6⟩
  generalize quoF (bl s) = x3
  go_wp2_with fail
  refine (wakes_true w6).mono ?_
  rintro e w7 ⟨rfl, b7⟩
  go_wp2_with fail
  go_ret
  exact ⟨rfl, Below.more b1 (Below.more b2 (Below.more b3 (Below.more b4 (Below.more b5 (Below.more b6 b7)))))⟩
end Go.Proofs.YtilfflpjlakkpaaDoor
