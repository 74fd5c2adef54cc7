/-
  The law HopKnown: walk.
  Conditions: none.
-/
import Derived.Test.YtinibacmhmmcdaaDoorVW
namespace Go.Proofs.YtinibacmhmmcdaaDoor.Hop
open Go.RowKit

set_option maxHeartbeats 16000000 in
set_option maxRecDepth 100000 in
theorem known_law (w0 : World) : Calls Tryd.prog 7 #[] w0 fun e w' => e = .returned (.bool true) ∧ Below w0.heap.size w0 w' := by
  go_enter Tryd.func7, Tryd.ntmps7
  have B0 : Hid (Below w0.heap.size w0 w0) := Lib.hid (Below.refl _ _)
  have bb := (Below.refl w0.heap.size w0).alloc (Nat.le_refl _) (.cells #[.string ⟨#[67, 79, 78, 78, 69, 67, 84, 73, 79, 78]⟩, .string ⟨#[]⟩, .string ⟨#[75, 101, 101, 112, 45, 65, 108, 105, 118, 101]⟩, .string ⟨#[]⟩, .string ⟨#[80, 114, 111, 120, 121, 45, 67, 111, 110, 110, 101, 99, 116, 105, 111, 110]⟩, .string ⟨#[]⟩, .string ⟨#[80, 114, 111, 120, 121, 45, 65, 117, 116, 104, 101, 110, 116, 105, 99, 97, 116, 101]⟩, .string ⟨#[]⟩, .string ⟨#[80, 114, 111, 120, 121, 45, 65, 117, 116, 104, 111, 114, 105, 122, 97, 116, 105, 111, 110]⟩, .string ⟨#[]⟩, .string ⟨#[84, 101]⟩, .string ⟨#[]⟩, .string ⟨#[84, 114, 97, 105, 108, 101, 114]⟩, .string ⟨#[]⟩, .string ⟨#[84, 114, 97, 110, 115, 102, 101, 114, 45, 69, 110, 99, 111, 100, 105, 110, 103]⟩, .string ⟨#[]⟩, .string ⟨#[85, 112, 103, 114, 97, 100, 101]⟩, .string ⟨#[]⟩] 32)
  have sa : SrcF (w0.alloc (.cells #[.string ⟨#[67, 79, 78, 78, 69, 67, 84, 73, 79, 78]⟩, .string ⟨#[]⟩, .string ⟨#[75, 101, 101, 112, 45, 65, 108, 105, 118, 101]⟩, .string ⟨#[]⟩, .string ⟨#[80, 114, 111, 120, 121, 45, 67, 111, 110, 110, 101, 99, 116, 105, 111, 110]⟩, .string ⟨#[]⟩, .string ⟨#[80, 114, 111, 120, 121, 45, 65, 117, 116, 104, 101, 110, 116, 105, 99, 97, 116, 101]⟩, .string ⟨#[]⟩, .string ⟨#[80, 114, 111, 120, 121, 45, 65, 117, 116, 104, 111, 114, 105, 122, 97, 116, 105, 111, 110]⟩, .string ⟨#[]⟩, .string ⟨#[84, 101]⟩, .string ⟨#[]⟩, .string ⟨#[84, 114, 97, 105, 108, 101, 114]⟩, .string ⟨#[]⟩, .string ⟨#[84, 114, 97, 110, 115, 102, 101, 114, 45, 69, 110, 99, 111, 100, 105, 110, 103]⟩, .string ⟨#[]⟩, .string ⟨#[85, 112, 103, 114, 97, 100, 101]⟩, .string ⟨#[]⟩] 32)) (fun _ => True) (some ⟨w0.heap.size, 0, none⟩) [([67, 79, 78, 78, 69, 67, 84, 73, 79, 78], []), ([75, 101, 101, 112, 45, 65, 108, 105, 118, 101], []), ([80, 114, 111, 120, 121, 45, 67, 111, 110, 110, 101, 99, 116, 105, 111, 110], []), ([80, 114, 111, 120, 121, 45, 65, 117, 116, 104, 101, 110, 116, 105, 99, 97, 116, 101], []), ([80, 114, 111, 120, 121, 45, 65, 117, 116, 104, 111, 114, 105, 122, 97, 116, 105, 111, 110], []), ([84, 101], []), ([84, 114, 97, 105, 108, 101, 114], []), ([84, 114, 97, 110, 115, 102, 101, 114, 45, 69, 110, 99, 111, 100, 105, 110, 103], []), ([85, 112, 103, 114, 97, 100, 101], [])] := srcf_made w0 [([67, 79, 78, 78, 69, 67, 84, 73, 79, 78], []), ([75, 101, 101, 112, 45, 65, 108, 105, 118, 101], []), ([80, 114, 111, 120, 121, 45, 67, 111, 110, 110, 101, 99, 116, 105, 111, 110], []), ([80, 114, 111, 120, 121, 45, 65, 117, 116, 104, 101, 110, 116, 105, 99, 97, 116, 101], []), ([80, 114, 111, 120, 121, 45, 65, 117, 116, 104, 111, 114, 105, 122, 97, 116, 105, 111, 110], []), ([84, 101], []), ([84, 114, 97, 105, 108, 101, 114], []), ([84, 114, 97, 110, 115, 102, 101, 114, 45, 69, 110, 99, 111, 100, 105, 110, 103], []), ([85, 112, 103, 114, 97, 100, 101], [])]
  have K1 := Lib.hid sa
  obtain ⟨g0, hg0⟩ : ∃ g0, w0.heap.size = g0 := ⟨_, rfl⟩
  obtain ⟨w1, hw1⟩ : ∃ w1, w0.alloc (.cells #[.string ⟨#[67, 79, 78, 78, 69, 67, 84, 73, 79, 78]⟩, .string ⟨#[]⟩, .string ⟨#[75, 101, 101, 112, 45, 65, 108, 105, 118, 101]⟩, .string ⟨#[]⟩, .string ⟨#[80, 114, 111, 120, 121, 45, 67, 111, 110, 110, 101, 99, 116, 105, 111, 110]⟩, .string ⟨#[]⟩, .string ⟨#[80, 114, 111, 120, 121, 45, 65, 117, 116, 104, 101, 110, 116, 105, 99, 97, 116, 101]⟩, .string ⟨#[]⟩, .string ⟨#[80, 114, 111, 120, 121, 45, 65, 117, 116, 104, 111, 114, 105, 122, 97, 116, 105, 111, 110]⟩, .string ⟨#[]⟩, .string ⟨#[84, 101]⟩, .string ⟨#[]⟩, .string ⟨#[84, 114, 97, 105, 108, 101, 114]⟩, .string ⟨#[]⟩, .string ⟨#[84, 114, 97, 110, 115, 102, 101, 114, 45, 69, 110, 99, 111, 100, 105, 110, 103]⟩, .string ⟨#[]⟩, .string ⟨#[85, 112, 103, 114, 97, 100, 101]⟩, .string ⟨#[]⟩] 32) = w1 := ⟨_, rfl⟩
  rw [hw1] at bb K1
  rw [hg0] at K1
  have B1 := Lib.hid (B0.out.trans (bb.mono B0.out.size))
  clear B0
  clear bb sa
  go_upto_region 2 with fail
  clear hw1 hg0
  go_wp2_with fail
  have ba2 := (Below.refl w1.heap.size w1).alloc (Nat.le_refl _) (.cells #[.string ⟨#[118, 105, 97]⟩, .string ⟨#[34, 49, 46, 49, 32, 116, 111, 108, 108, 104, 111, 117, 115, 101, 34]⟩] 32)
  have sa2 : SrcF (w1.alloc (.cells #[.string ⟨#[118, 105, 97]⟩, .string ⟨#[34, 49, 46, 49, 32, 116, 111, 108, 108, 104, 111, 117, 115, 101, 34]⟩] 32)) (fun _ => True) (some ⟨w1.heap.size, 0, none⟩) [([118, 105, 97], [34, 49, 46, 49, 32, 116, 111, 108, 108, 104, 111, 117, 115, 101, 34])] := srcf_made w1 [([118, 105, 97], [34, 49, 46, 49, 32, 116, 111, 108, 108, 104, 111, 117, 115, 101, 34])]
  have C1 := loops_any _ _ [([118, 105, 97], [34, 49, 46, 49, 32, 116, 111, 108, 108, 104, 111, 117, 115, 101, 34])] 1 1 rfl (by decide) sa2
  rw [show loopsF [([118, 105, 97], [34, 49, 46, 49, 32, 116, 111, 108, 108, 104, 111, 117, 115, 101, 34])] = false by decide +kernel] at C1
  refine (C1).mono ?_
  rintro e w2 ⟨rfl, b⟩
  clear C1
  have bb := ba2.trans (b.mono ba2.size)
  have B2 := Lib.hid (B1.out.trans (bb.mono B1.out.size))
  have K_2 := Lib.hid (K1.out.below bb)
  clear B1 K1
  clear b bb ba2 sa2
  go_wp2_with fail
  have ba3 := (Below.refl w2.heap.size w2).alloc (Nat.le_refl _) (.cells #[.string ⟨#[118, 105, 97]⟩, .string ⟨#[49, 46, 49, 9, 32, 116, 111, 108, 108, 104, 111, 117, 115, 101]⟩, .string ⟨#[120]⟩, .string ⟨#[]⟩] 32)
  have sa3 : SrcF (w2.alloc (.cells #[.string ⟨#[118, 105, 97]⟩, .string ⟨#[49, 46, 49, 9, 32, 116, 111, 108, 108, 104, 111, 117, 115, 101]⟩, .string ⟨#[120]⟩, .string ⟨#[]⟩] 32)) (fun _ => True) (some ⟨w2.heap.size, 0, none⟩) [([118, 105, 97], [49, 46, 49, 9, 32, 116, 111, 108, 108, 104, 111, 117, 115, 101]), ([120], [])] := srcf_made w2 [([118, 105, 97], [49, 46, 49, 9, 32, 116, 111, 108, 108, 104, 111, 117, 115, 101]), ([120], [])]
  have C1 := loops_any _ _ [([118, 105, 97], [49, 46, 49, 9, 32, 116, 111, 108, 108, 104, 111, 117, 115, 101]), ([120], [])] 2 2 rfl (by decide) sa3
  rw [show loopsF [([118, 105, 97], [49, 46, 49, 9, 32, 116, 111, 108, 108, 104, 111, 117, 115, 101]), ([120], [])] = true by decide +kernel] at C1
  refine (C1).mono ?_
  rintro e w3 ⟨rfl, b⟩
  clear C1
  have bb := ba3.trans (b.mono ba3.size)
  have B3 := Lib.hid (B2.out.trans (bb.mono B2.out.size))
  have K_3 := Lib.hid (K_2.out.below bb)
  clear B2 K_2
  clear b bb ba3 sa3
  go_wp2_with fail
  have ba4 := (Below.refl w3.heap.size w3).alloc (Nat.le_refl _) (.cells #[.string ⟨#[67, 111, 110, 110, 101, 99, 116, 105, 111, 110]⟩, .string ⟨#[99, 108, 111, 115, 101, 100, 44, 32, 120]⟩] 32)
  have sa4 : SrcF (w3.alloc (.cells #[.string ⟨#[67, 111, 110, 110, 101, 99, 116, 105, 111, 110]⟩, .string ⟨#[99, 108, 111, 115, 101, 100, 44, 32, 120]⟩] 32)) (fun _ => True) (some ⟨w3.heap.size, 0, none⟩) [([67, 111, 110, 110, 101, 99, 116, 105, 111, 110], [99, 108, 111, 115, 101, 100, 44, 32, 120])] := srcf_made w3 [([67, 111, 110, 110, 101, 99, 116, 105, 111, 110], [99, 108, 111, 115, 101, 100, 44, 32, 120])]
  have C1 := closes_any 7 _ _ [([67, 111, 110, 110, 101, 99, 116, 105, 111, 110], [99, 108, 111, 115, 101, 100, 44, 32, 120])] 1 1 rfl (by decide) sa4
  rw [show closesF 7 [([67, 111, 110, 110, 101, 99, 116, 105, 111, 110], [99, 108, 111, 115, 101, 100, 44, 32, 120])] = false by decide +kernel] at C1
  refine (C1).mono ?_
  rintro e w4 ⟨rfl, b⟩
  clear C1
  have bb := ba4.trans (b.mono ba4.size)
  have B4 := Lib.hid (B3.out.trans (bb.mono B3.out.size))
  have K_4 := Lib.hid (K_3.out.below bb)
  clear B3 K_3
  clear b bb ba4 sa4
  go_wp2_with fail
  have ba5 := (Below.refl w4.heap.size w4).alloc (Nat.le_refl _) (.cells #[.string ⟨#[67, 111, 110, 110, 101, 99, 116, 105, 111, 110]⟩, .string ⟨#[99, 108, 111, 115, 101]⟩, .string ⟨#[67, 111, 110, 110, 101, 99, 116, 105, 111, 110]⟩, .string ⟨#[107, 101, 101, 112, 45, 97, 108, 105, 118, 101]⟩] 32)
  have sa5 : SrcF (w4.alloc (.cells #[.string ⟨#[67, 111, 110, 110, 101, 99, 116, 105, 111, 110]⟩, .string ⟨#[99, 108, 111, 115, 101]⟩, .string ⟨#[67, 111, 110, 110, 101, 99, 116, 105, 111, 110]⟩, .string ⟨#[107, 101, 101, 112, 45, 97, 108, 105, 118, 101]⟩] 32)) (fun _ => True) (some ⟨w4.heap.size, 0, none⟩) [([67, 111, 110, 110, 101, 99, 116, 105, 111, 110], [99, 108, 111, 115, 101]), ([67, 111, 110, 110, 101, 99, 116, 105, 111, 110], [107, 101, 101, 112, 45, 97, 108, 105, 118, 101])] := srcf_made w4 [([67, 111, 110, 110, 101, 99, 116, 105, 111, 110], [99, 108, 111, 115, 101]), ([67, 111, 110, 110, 101, 99, 116, 105, 111, 110], [107, 101, 101, 112, 45, 97, 108, 105, 118, 101])]
  have C1 := closes_any 0 _ _ [([67, 111, 110, 110, 101, 99, 116, 105, 111, 110], [99, 108, 111, 115, 101]), ([67, 111, 110, 110, 101, 99, 116, 105, 111, 110], [107, 101, 101, 112, 45, 97, 108, 105, 118, 101])] 2 2 rfl (by decide) sa5
  rw [show closesF 0 [([67, 111, 110, 110, 101, 99, 116, 105, 111, 110], [99, 108, 111, 115, 101]), ([67, 111, 110, 110, 101, 99, 116, 105, 111, 110], [107, 101, 101, 112, 45, 97, 108, 105, 118, 101])] = true by decide +kernel] at C1
  refine (C1).mono ?_
  rintro e w5 ⟨rfl, b⟩
  clear C1
  have bb := ba5.trans (b.mono ba5.size)
  have B5 := Lib.hid (B4.out.trans (bb.mono B4.out.size))
  have K_5 := Lib.hid (K_4.out.below bb)
  clear B4 K_4
  clear b bb ba5 sa5
  go_wp2_with fail
  have C1 := strip_any w5 (some ⟨g0, 0, none⟩) [([67, 79, 78, 78, 69, 67, 84, 73, 79, 78], []), ([75, 101, 101, 112, 45, 65, 108, 105, 118, 101], []), ([80, 114, 111, 120, 121, 45, 67, 111, 110, 110, 101, 99, 116, 105, 111, 110], []), ([80, 114, 111, 120, 121, 45, 65, 117, 116, 104, 101, 110, 116, 105, 99, 97, 116, 101], []), ([80, 114, 111, 120, 121, 45, 65, 117, 116, 104, 111, 114, 105, 122, 97, 116, 105, 111, 110], []), ([84, 101], []), ([84, 114, 97, 105, 108, 101, 114], []), ([84, 114, 97, 110, 115, 102, 101, 114, 45, 69, 110, 99, 111, 100, 105, 110, 103], []), ([85, 112, 103, 114, 97, 100, 101], [])] 9 9 rfl (by decide) K_5.out
  rw [show stripF [([67, 79, 78, 78, 69, 67, 84, 73, 79, 78], []), ([75, 101, 101, 112, 45, 65, 108, 105, 118, 101], []), ([80, 114, 111, 120, 121, 45, 67, 111, 110, 110, 101, 99, 116, 105, 111, 110], []), ([80, 114, 111, 120, 121, 45, 65, 117, 116, 104, 101, 110, 116, 105, 99, 97, 116, 101], []), ([80, 114, 111, 120, 121, 45, 65, 117, 116, 104, 111, 114, 105, 122, 97, 116, 105, 111, 110], []), ([84, 101], []), ([84, 114, 97, 105, 108, 101, 114], []), ([84, 114, 97, 110, 115, 102, 101, 114, 45, 69, 110, 99, 111, 100, 105, 110, 103], []), ([85, 112, 103, 114, 97, 100, 101], [])] = [] by decide +kernel] at C1
  refine (C1).mono ?_
  rintro e w6 ⟨v, o, rfl, own, _, b⟩
  obtain ⟨Ax, cx, hvx, _⟩ := own.src (fun _ => True) (fun _ _ => trivial)
  rw [List.length_nil] at hvx
  subst hvx
  clear own C1
  have B6 := Lib.hid (B5.out.trans (b.mono B5.out.size))
  have K_6 := Lib.hid (K_5.out.below b)
  clear B5 K_5
  clear b
  go_wp2_with fail
  clear K_6
  have C1 := loops_any w6 none [] 0 0 rfl (by decide) (srcf_nil _)
  rw [show loopsF [] = false from rfl] at C1
  refine (C1).mono ?_
  rintro e w7 ⟨rfl, b⟩
  clear C1
  have B7 := Lib.hid (B6.out.trans (b.mono B6.out.size))
  clear B6
  clear b
  go_wp2_with fail
  have C1 := strip_any w7 none [] 0 0 rfl (by decide) (srcf_nil _)
  rw [show stripF [] = [] by decide +kernel] at C1
  refine (C1).mono ?_
  rintro e w8 ⟨v, o, rfl, own, _, b⟩
  obtain ⟨Ax, cx, hvx, _⟩ := own.src (fun _ => True) (fun _ _ => trivial)
  rw [List.length_nil] at hvx
  subst hvx
  clear own C1
  have B8 := Lib.hid (B7.out.trans (b.mono B7.out.size))
  clear B7
  clear b
  go_wp2_with fail
  refine ((wakes_any w8)).mono ?_
  rintro e w9 ⟨rfl, b⟩
  have B9 := Lib.hid (B8.out.trans (b.mono B8.out.size))
  clear B8
  clear b
  go_wp2_with fail
  go_ret
  exact ⟨rfl, B9.out⟩
end Go.Proofs.YtinibacmhmmcdaaDoor.Hop
