/-
  The laws' awake, over the word of the landed code's contracts.
  Conditions: those that each theorem names.
-/
import Derived.Test.YtilgljnmdfejmaaDoorCF
import Derived.Lib.SlBytesConst
namespace Go.Proofs.YtilgljnmdfejmaaDoor
open Go.RowKit

/-- What is taken, as a slice. -/
def TakenAs (R : Tk) (m : Nat) (X : World) (e : Ending) (w' : World) : Prop := ∃ A c, e = .returned (.tuple #[.slice A m c, .int .i64 (R.2.1 : Int), .int .i64 (R.2.2 : Int)]) ∧ Src w' (fun _ => True) A R.1 ∧ Below X.heap.size X w'
/-- []byte of a constant text: the row, marked. -/
theorem const_any (cur : Array Value) (n : Nat) (hn : cur.size = n) (X : World) (g : Nat) (hg : X.heap.size = g) : (convert 22 22 (.slice (some ⟨g, 0, none⟩) n n)).run Tryd.prog (X.alloc (.cells cur 5)) = .ok (.slice (some ⟨g, 0, none⟩) n n) (X.alloc (.cells cur 5 (n, n + 1))) := by
  subst hn hg
  exact Lib.run_convert_bytes_const X 22 5 cur _ _ Tryd.underlying22 Tryd.underlying5
theorem src_marked (X : World) (bs : List UInt8) (cur : Array Value) (hc : (vals bs).toArray = cur) (fz : Nat × Nat) : Src (X.alloc (.cells cur 5 fz)) (fun _ => True) (some ⟨X.heap.size, 0, none⟩) bs := fun _ => by
  subst hc
  refine ⟨_, rfl, trivial, by simp, fun i v hv => ?_⟩
  rw [add_at, Nat.zero_add]
  have e : (X.alloc (.cells (vals bs).toArray 5 fz)).cell? ⟨X.heap.size, i, none⟩ = (vals bs).toArray[i]? := by simp [World.alloc, World.cell?, -World.alloc_eq]
  rw [e]
  simpa using hv
theorem take_lit (HC : ChunkC) (bs : List UInt8) (R : Tk) (hR : takeF bs = R) (m : Nat) (hm : R.1.length = m) (cur : Array Value) (hc : (vals bs).toArray = cur) (n : Nat) (hn : bs.length = n) (hmax : n ≤ 100000) (X : World) :
    Calls Tryd.prog 8 #[.slice (some ⟨X.heap.size, 0, none⟩) n n] (X.alloc (.cells cur 5 (n, n + 1))) (TakenAs R m X) := by
  subst hR hm
  have hb : Below X.heap.size X (X.alloc (.cells cur 5 (n, n + 1))) := (Below.refl _ _).alloc (Nat.le_refl _) _
  refine (HC.take _ _ bs n n hn (Nat.le_refl _) (by omega) (src_marked X bs cur hc _)).mono ?_
  rintro e w' ⟨v, o, rfl, own, _, b⟩
  obtain ⟨A, c, rfl, hs⟩ := own.src (fun _ => True) (fun _ _ => trivial)
  exact ⟨A, c, rfl, hs, hb.trans (b.mono hb.size)⟩
theorem wake8a : takeF [50, 13, 10, 97, 98, 13, 10, 48, 13, 10, 13, 10] = ([97, 98], 12, 0) := by decide +kernel
theorem wake8b : takeF [50, 13, 10, 97] = ([], 0, 8) := by decide +kernel
theorem wake8c : putC [[97], [], [98, 99]] = ([49, 13, 10, 97, 13, 10, 50, 13, 10, 98, 99, 13, 10, 48, 13, 10, 13, 10], 0) := by decide +kernel

/-- What is put, as a slice. -/
def PutAs (R : List UInt8 × Nat) (m : Nat) (X : World) (e : Ending) (w' : World) : Prop := ∃ A c, e = .returned (.tuple #[.slice A m c, .int .i64 (R.2 : Int)]) ∧ Src w' (fun _ => True) A R.1 ∧ Below X.heap.size X w'
theorem put_three (HC : ChunkC) (X : World) (hz : ZeroTab X) : Calls Tryd.prog 12 #[.slice (some ⟨X.heap.size + 1 + 1, 0, none⟩) 3 3] (((X.alloc (.cells #[.int .u8 97] 5 (1, 2))).alloc (.cells #[.int .u8 98, .int .u8 99] 5 (2, 3))).alloc (.cells #[.slice (some ⟨X.heap.size, 0, none⟩) 1 1, .slice none 0 0, .slice (some ⟨X.heap.size + 1, 0, none⟩) 2 2] 22))
    (PutAs ([49, 13, 10, 97, 13, 10, 50, 13, 10, 98, 99, 13, 10, 48, 13, 10, 13, 10], 0) 18 X) := by
  have s1 := src_marked X [97] #[.int .u8 97] rfl (1, 2)
  obtain ⟨X1, hX1⟩ : ∃ X1, X1 = X.alloc (.cells #[.int .u8 97] 5 (1, 2)) := ⟨_, rfl⟩
  have z1 : X1.heap.size = X.heap.size + 1 := by rw [hX1]; simp
  have b1 : Below X.heap.size X X1 := by rw [hX1]; exact (Below.refl _ _).alloc (Nat.le_refl _) _
  have s2 := src_marked X1 [98, 99] #[.int .u8 98, .int .u8 99] rfl (2, 3)
  rw [← hX1] at s1 ⊢
  obtain ⟨X2, hX2⟩ : ∃ X2, X2 = X1.alloc (.cells #[.int .u8 98, .int .u8 99] 5 (2, 3)) := ⟨_, rfl⟩
  have z2 : X2.heap.size = X1.heap.size + 1 := by rw [hX2]; simp
  have b2 : Below X1.heap.size X1 X2 := by rw [hX2]; exact (Below.refl _ _).alloc (Nat.le_refl _) _
  rw [← hX2] at s2 ⊢
  have s1' := s1.kept (Turn.of_below (S := fun _ => False) b2) (fun _ _ h => h)
  have h3 := Is.made X2 22 [.slice (some ⟨X.heap.size, 0, none⟩) 1 1, .slice none 0 0, .slice (some ⟨X.heap.size + 1, 0, none⟩) 2 2]
  have b3 : Below X2.heap.size X2 (X2.alloc (.cells #[.slice (some ⟨X.heap.size, 0, none⟩) 1 1, .slice none 0 0, .slice (some ⟨X.heap.size + 1, 0, none⟩) 2 2] 22)) := (Below.refl _ _).alloc (Nat.le_refl _) _
  have s1'' := s1'.kept (Turn.of_below (S := fun _ => False) b3) (fun _ _ h => h)
  have s2' := s2.kept (Turn.of_below (S := fun _ => False) b3) (fun _ _ h => h)
  have hb := (b1.trans (b2.mono b1.size)).trans (b3.mono (b1.trans (b2.mono b1.size)).size)
  rw [z1] at s2'
  rw [show X.heap.size + 1 + 1 = X2.heap.size by omega]
  have hL : SrcL (X2.alloc (.cells #[.slice (some ⟨X.heap.size, 0, none⟩) 1 1, .slice none 0 0, .slice (some ⟨X.heap.size + 1, 0, none⟩) 2 2] 22)) (some ⟨X2.heap.size, 0, none⟩) [[97], [], [98, 99]] := fun _ => by
    refine ⟨_, rfl, by simp, fun i x hx => ?_⟩
    rw [add_at, Nat.zero_add]
    have hi : i < 3 := (List.getElem?_eq_some_iff.1 hx).1
    obtain rfl | rfl | rfl : i = 0 ∨ i = 1 ∨ i = 2 := by omega
    · obtain rfl : [97] = x := by simpa using hx
      exact ⟨_, 1, h3.cell 0, Nat.le_refl _, s1''⟩
    · obtain rfl : [] = x := by simpa using hx
      exact ⟨none, 0, h3.cell 1, Nat.le_refl _, fun h => absurd h (by simp)⟩
    · obtain rfl : [98, 99] = x := by simpa using hx
      exact ⟨_, 2, h3.cell 2, Nat.le_refl _, s2'⟩
  refine (HC.put _ _ [[97], [], [98, 99]] 3 3 rfl (by omega) hL (fun x hx => ?_) (hz.below hb)).mono ?_
  · simp only [List.mem_cons, List.not_mem_nil, or_false] at hx
    rcases hx with rfl | rfl | rfl <;> simp
  · rw [wake8c]
    rintro e w' ⟨v, o, rfl, own, _, b⟩
    obtain ⟨A, c, rfl, hs⟩ := own.src (fun _ => True) (fun _ _ => trivial)
    exact ⟨A, c, rfl, hs, hb.trans (b.mono hb.size)⟩

set_option maxHeartbeats 4000000 in
set_option maxRecDepth 100000 in
theorem awake8_any (HC : ChunkC) (w : World) (hz : ZeroTab w) : Calls Tryd.prog 11 #[] w fun e w' => e = .returned (.bool true) ∧ Below w.heap.size w w' := by
  have T1 := Lib.hid (take_lit HC _ _ wake8a 2 rfl #[.int .u8 50, .int .u8 13, .int .u8 10, .int .u8 97, .int .u8 98, .int .u8 13, .int .u8 10, .int .u8 48, .int .u8 13, .int .u8 10, .int .u8 13, .int .u8 10] rfl 12 rfl (by omega))
  have T2 := Lib.hid (take_lit HC _ _ wake8b 0 rfl #[.int .u8 50, .int .u8 13, .int .u8 10, .int .u8 97] rfl 4 rfl (by omega))
  have HZ := Lib.hid hz
  have K1 := const_any #[.int .u8 50, .int .u8 13, .int .u8 10, .int .u8 97, .int .u8 98, .int .u8 13, .int .u8 10, .int .u8 48, .int .u8 13, .int .u8 10, .int .u8 13, .int .u8 10] 12 rfl w _ rfl
  unfold TakenAs at T1 T2
  simp only at T1 T2
  clear hz
  go_enter Tryd.func11, Tryd.ntmps11
  go_wp2_with fail
  refine (T1.out _).mono ?_
  rintro e w1 ⟨A1, c1, rfl, s1, b1⟩
  have B1 := Lib.hid b1
  have S1 := Lib.hid s1
  have K2 := const_any #[.int .u8 50, .int .u8 13, .int .u8 10, .int .u8 97] 4 rfl w1 _ rfl
  clear s1 b1 K1
  go_wp2_with fail
  refine (T2.out _).mono ?_
  rintro e w2 ⟨A2, c2, rfl, s2, b2⟩
  have B2 := Lib.hid (B1.out.trans (b2.mono B1.out.size))
  have S2 := Lib.hid (S1.out.kept (Turn.of_below (S := fun _ => False) b2) (fun _ _ h => h))
  have K3 := const_any #[.int .u8 97] 1 rfl w2 _ rfl
  have K4 := const_any #[.int .u8 98, .int .u8 99] 2 rfl (w2.alloc (.cells #[.int .u8 97] 5 (1, 1 + 1))) (w2.heap.size + 1) (by simp)
  clear s2 b2 K2
  go_wp2_with fail
  refine (put_three HC w2 (HZ.out.below B2.out)).mono ?_
  rintro e w3 ⟨A3, c3, rfl, s3, b3⟩
  have B3 := Lib.hid (B2.out.trans (b3.mono B2.out.size))
  have r1 : (convert 22 9 (.slice A1 2 c1)).run Tryd.prog w3 = .ok (.string ⟨#[97, 98]⟩) w3 := run_text w3 A1 [97, 98] 2 c1 rfl (S2.out.kept (Turn.of_below (S := fun _ => False) b3) (fun _ _ h => h))
  have r2 : (convert 22 9 (.slice A3 18 c3)).run Tryd.prog w3 = .ok (.string ⟨#[49, 13, 10, 97, 13, 10, 50, 13, 10, 98, 99, 13, 10, 48, 13, 10, 13, 10]⟩) w3 := run_text w3 A3 _ 18 c3 rfl s3
  clear s3 b3 K3 K4
  go_wp2_with fail
  go_ret
  exact ⟨rfl, B3.out⟩
end Go.Proofs.YtilgljnmdfejmaaDoor
