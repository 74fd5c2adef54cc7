/-
  What the laws of layer 2 answer, as calls: wakes, TextWords.
  Conditions: those that each theorem names.
-/
import Derived.Test.YtilfflpjlakkpaaDoorTX
namespace Go.Proofs.YtilfflpjlakkpaaDoor
open Go.RowKit

/-- A list that is not empty, its cells by name. -/
theorem Lists.form {ls : List (List UInt8)} {w w' : World} {e : Ending} (h : Lists ls w e w') (hne : 0 < ls.length) : ∃ g c, e = .returned (.slice (some ⟨g, 0, none⟩) ls.length c) ∧ g < w'.heap.size ∧ w.heap.size ≤ g ∧ (∀ i l, ls[i]? = some l → w'.cell? ⟨g, i, none⟩ = some (.string ⟨l.toArray⟩)) ∧ Below w.heap.size w w' := by
  obtain ⟨v, o, rfl, ⟨⟨h1, h2⟩, h3⟩, ho, hb⟩ := h
  rcases h2 with ⟨_, h0⟩ | ⟨g, cap, cur, rfl, _, hh, hnc, _, hsz, htk⟩
  · omega
  · refine ⟨g, cap, rfl, (Array.getElem?_eq_some_iff.1 hh).1, ho g h3.symm, fun i l hl => ?_, hb⟩
    rw [cell_of_row w' g i cur 9 (0, 0) hh, ← Array.getElem?_toList]
    have hu : (strs ls)[i]? = some (strV l) := by simp [strs, hl]
    rw [← htk, List.getElem?_take] at hu
    split at hu
    · exact hu
    · cases hu

/-- What List answers of a text whose elements are known. -/
def Listed (ls : List (List UInt8)) (n : Nat) (w : World) (e : Ending) (w' : World) : Prop :=
  ∃ g c, e = .returned (.slice (some ⟨g, 0, none⟩) n c) ∧ g < w'.heap.size ∧ w.heap.size ≤ g ∧ (∀ i l, ls[i]? = some l → w'.cell? ⟨g, i, none⟩ = some (.string ⟨l.toArray⟩)) ∧ Below w.heap.size w w'
theorem tx_list_of (s : ByteArray) (ls : List (List UInt8)) (n : Nat) (h : listF (bl s) = ls) (hn : ls.length = n) (h0 : 0 < n) (hs : s.size ≤ 1000000000) (w : World) : Calls Tryd.prog 22 #[.string s] w (Listed ls n w) := by
  subst hn h
  exact (tx_list s w hs).mono fun e w' h => h.form h0
theorem tx_quote_of (s : ByteArray) (l : List UInt8) (h : quoF (bl s) = l) (hs : s.size ≤ 1000000000) (w : World) : Calls Tryd.prog 28 #[.string s] w (Text l w) := by
  subst h
  exact tx_quote s w hs
theorem tx_unquote_of (s : ByteArray) (r : Option (List UInt8)) (h : unqF (bl s) = r) (hs : s.size ≤ 1000000000) (w : World) : Calls Tryd.prog 24 #[.string s] w (TextOk r w) := by
  subst h
  exact tx_unquote s w hs
theorem tx_pair_of (s : ByteArray) (r : Option (List UInt8 × List UInt8)) (h : pairF (bl s) = r) (hs : s.size ≤ 1000000000) (w : World) : Calls Tryd.prog 26 #[.string s] w (Pairs r w) := by
  subst h
  exact tx_pair s w hs
theorem tx_token_of (s : ByteArray) (b : Bool) (h : tokF (bl s) = b) (hs : s.size ≤ 1000000000) (w : World) : Calls Tryd.prog 10 #[.string s] w fun e w' => e = .returned (.bool b) ∧ Below w.heap.size w w' := by
  subst h
  exact tx_token s w hs
theorem tx_visible_of (s : ByteArray) (b : Bool) (h : visF (bl s) = b) (hs : s.size ≤ 1000000000) (w : World) : Calls Tryd.prog 12 #[.string s] w fun e w' => e = .returned (.bool b) ∧ Below w.heap.size w w' := by
  subst h
  exact tx_visible s w hs
theorem tx_trim_of (s : ByteArray) (l : List UInt8) (h : trimF (bl s) = l) (hs : s.size ≤ 1000000000) (w : World) : Calls Tryd.prog 14 #[.string s] w (Text l w) := by
  subst h
  exact tx_trim s w hs
theorem tx_same_of (s t : ByteArray) (b : Bool) (h : (lowF (bl s) == lowF (bl t)) = b) (hs : s.size ≤ 1000000000) (ht : t.size ≤ 1000000000) (w : World) : Calls Tryd.prog 18 #[.string s, .string t] w fun e w' => e = .returned (.bool b) ∧ Below w.heap.size w w' := by
  subst h
  exact tx_same s t w hs ht

theorem Below.more {W a b : World} (h : Below W.heap.size W a) (h' : Below a.heap.size a b) : Below W.heap.size W b := h.trans (h'.mono h.size)

set_option maxRecDepth 100000 in
set_option maxHeartbeats 4000000 in
theorem wakes_true (w : World) : Calls Tryd.prog 20 #[] w fun e w' => e = .returned (.bool true) ∧ Below w.heap.size w w' := by
  go_enter Tryd.func20, Tryd.ntmps20
  go_wp2_with fail
  refine (tx_list_of _ [[97], [98, 61, 34, 120, 44, 32, 121, 34], [99]] 3 (by decide) rfl (by omega) (by decide) w).mono ?_
  rintro e w1 ⟨g1, c1, rfl, hg1, _, hc1, b1⟩
  have x1 := hc1 1 _ rfl
  have x2 := hc1 2 _ rfl
  clear hc1
  go_wp2_with fail
  refine (tx_list_of _ [[34, 92, 34, 44, 32, 99, 34], [100]] 2 (by decide) rfl (by omega) (by decide) w1).mono ?_
  rintro e w2 ⟨g2, c2, rfl, hg2, _, hc2, b2⟩
  have y1 := hc2 1 _ rfl
  clear hc2
  have x1' := (b2.cell (p := ⟨g1, 1, none⟩) hg1).trans x1
  have x2' := (b2.cell (p := ⟨g1, 2, none⟩) hg1).trans x2
  have hg1' := Nat.lt_of_lt_of_le hg1 b2.size
  have B2 := Below.more b1 b2
  clear x1 x2 b1 b2 hg1
  go_wp2_with fail
  refine (tx_quote_of _ [34, 97, 92, 34, 98, 34] (by decide) (by decide) w2).mono ?_
  rintro e w3 ⟨rfl, b3⟩
  go_wp2_with fail
  refine (tx_unquote_of _ (some [97, 34, 98]) (by decide) (by decide) w3).mono ?_
  rintro e w4 ⟨rfl, b4⟩
  go_wp2_with fail
  refine (tx_pair_of _ (some ([109, 97, 120, 45, 97, 103, 101], [53])) (by decide) (by decide) w4).mono ?_
  rintro e w5 ⟨rfl, b5⟩
  go_wp2_with fail
  refine (tx_pair_of _ none (by decide) (by decide) w5).mono ?_
  rintro e w6 ⟨rfl, b6⟩
  have B6 := Below.more b3 (Below.more b4 (Below.more b5 b6))
  have z1 := (B6.cell (p := ⟨g1, 1, none⟩) hg1').trans x1'
  have z2 := (B6.cell (p := ⟨g1, 2, none⟩) hg1').trans x2'
  have z3 := (B6.cell (p := ⟨g2, 1, none⟩) hg2).trans y1
  have B6' := Below.more B2 B6
  clear b3 b4 b5 b6 x1' x2' y1
  go_wp2_with fail
  refine (tx_token_of _ true (by decide) (by decide) w6).mono ?_
  rintro e w7 ⟨rfl, b7⟩
  go_wp2_with fail
  refine (tx_token_of _ false (by decide) (by decide) w7).mono ?_
  rintro e w8 ⟨rfl, b8⟩
  go_wp2_with fail
  refine (tx_visible_of _ true (by decide) (by decide) w8).mono ?_
  rintro e w9 ⟨rfl, b9⟩
  go_wp2_with fail
  refine (tx_visible_of _ false (by decide) (by decide) w9).mono ?_
  rintro e w10 ⟨rfl, b10⟩
  go_wp2_with fail
  refine (tx_trim_of _ [97] (by decide) (by decide) w10).mono ?_
  rintro e w11 ⟨rfl, b11⟩
  go_wp2_with fail
  refine (tx_same_of _ _ true (by decide) (by decide) (by decide) w11).mono ?_
  rintro e w12 ⟨rfl, b12⟩
  go_wp2_with fail
  go_ret
  exact ⟨rfl, Below.more B6' (Below.more b7 (Below.more b8 (Below.more b9 (Below.more b10 (Below.more b11 b12)))))⟩
end Go.Proofs.YtilfflpjlakkpaaDoor
