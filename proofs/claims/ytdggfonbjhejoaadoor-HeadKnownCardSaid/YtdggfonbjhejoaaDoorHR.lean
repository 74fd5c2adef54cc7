/-
  The law HeadParses: walk.
  Conditions: package head's calls answer as its word says; what b reads as.
-/
import Derived.Test.YtdggfonbjhejoaaDoorHQ
namespace Go.Proofs.YtdggfonbjhejoaaDoor
open Go.RowKit

theorem Src.stay {w w' : World} {P : Nat → Prop} {A : Option Addr} {bs : List UInt8} (h : Src w P A bs) (hb : Below w.heap.size w w') : Src w' P A bs := h.kept (Turn.of_below (S := fun _ => False) hb) (fun _ _ h => h)
theorem turn_none {w w' : World} (t : Turn (fun k => (none : Option Nat) = some k) w w') : Below w.heap.size w w' := t.below (fun _ _ h => by cases h)

theorem parse_len (b : List UInt8) : (parseH b).1.length ≤ 32 := by
  obtain ⟨⟨l, n, e⟩, hh⟩ : ∃ p, parseH b = p := ⟨_, rfl⟩
  rcases run_range _ _ _ _ _ _ _ _ _ _ hh with ⟨h1, _⟩ | ⟨_, h2, _⟩
  · subst h1
    rw [hh]
    exact (parse_fine b l n hh).2
  · rw [hh, h2]
    simp
set_option maxHeartbeats 8000000 in
theorem parses_law {P : Nat → Prop} (HC : HeadC) (w : World) (A : Option Addr) (bs : List UInt8) (n c : Nat) (hn : bs.length = n) (hmax : n ≤ 140737488351232) (h : Src w P A bs) :
    Calls Tryd.prog 3 #[.slice A n c] w fun e w' => e = .returned (.bool true) ∧ Below w.heap.size w w' := by
  obtain ⟨v1, w1, o1, hrun, own1, t1, _⟩ := run_append_src w (.slice none 0 0) none [] bs (Own.nil w) A n c hn h (by simp; omega)
  rw [List.nil_append] at own1
  have hb1 := turn_none t1
  obtain ⟨A1, c1, hv1, hc1, src1⟩ := own1.srcc (fun _ => True) (fun _ _ => trivial)
  subst hv1
  rw [hn] at hrun hc1
  have HC1 := Lib.hid hc1
  have HRUN := Lib.hid hrun
  have HN := Lib.hid hn
  have H1 := Lib.hid (h.stay hb1)
  have M1 := Lib.hid src1
  have B1 := Lib.hid hb1
  obtain ⟨R, hR⟩ : ∃ R, parseH bs = R := ⟨_, rfl⟩
  have HR := Lib.hid hR
  clear hrun own1 t1 hb1 src1 hn h hR hc1
  go_enter Tryd.func3, Tryd.ntmps3
  go_wp2_with (at_builtin; refine append_by rfl _ (.tmp 10) 22 rfl _ _ _ w1 rfl rfl HRUN.out ?_)
  refine (HC.parse w1 A1 bs n c1 HN.out HC1.out (by omega) M1.out).mono ?_
  rintro e w2 ⟨v2, o2, rfl, own2, _, b2⟩
  obtain ⟨A2, c2, hv2, src2⟩ := own2.src (fun _ => True) (fun _ _ => trivial)
  subst hv2
  rw [HR.out] at src2 ⊢
  have F2 := Lib.hid src2
  have B2 := Lib.hid (B1.out.trans (b2.mono B1.out.size))
  have H2 := Lib.hid (H1.out.stay b2)
  have M2 := Lib.hid (M1.out.stay b2)
  clear own2 src2 b2 B1 H1 M1
  go_wp2_with fail
  refine (rparse_head w2 A bs n c HN.out (by omega) H2.out).mono ?_
  rintro e w3 ⟨v3, o3, rfl, own3, _, b3⟩
  obtain ⟨A3, c3, hv3, src3⟩ := own3.src (fun _ => True) (fun _ _ => trivial)
  subst hv3
  rw [HR.out] at src3 ⊢
  have F3 := Lib.hid src3
  have G3 := Lib.hid (F2.out.below b3)
  have B3 := Lib.hid (B2.out.trans (b3.mono B2.out.size))
  have H3 := Lib.hid (H2.out.stay b3)
  have M3 := Lib.hid (M2.out.stay b3)
  clear own3 src3 b3 B2 H2 M2 F2
  have hlen : R.1.length ≤ 32 := by rw [← HR.out]; exact parse_len bs
  go_wp2_with fail
  have CS := rsame_any w3 A2 A3 R.1 R.1 R.1.length R.1.length c2 c3 rfl rfl (by omega) G3.out F3.out
  rw [show (R.1 == R.1) = true by simp] at CS
  refine CS.mono ?_
  rintro e w4 ⟨rfl, b4⟩
  have hc1 := run_text w4 A1 bs n c1 HN.out (M3.out.stay b4)
  have hc2 := run_text w4 A bs n c HN.out (H3.out.stay b4)
  have B4 := Lib.hid (B3.out.trans (b4.mono B3.out.size))
  have CK := Lib.hid (wakes_head HC w4)
  clear b4 B3 H3 M3 G3 F3 CS hlen
  go_wp2_with fail
  refine CK.out.mono ?_
  rintro e w5 ⟨rfl, b5⟩
  have B5 := Lib.hid (B4.out.trans (b5.mono B4.out.size))
  clear b5 B4
  go_wp2_with fail
  go_ret
  exact ⟨rfl, B5.out⟩
end Go.Proofs.YtdggfonbjhejoaaDoor
