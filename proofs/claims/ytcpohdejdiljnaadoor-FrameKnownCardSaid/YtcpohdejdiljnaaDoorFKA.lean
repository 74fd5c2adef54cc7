/-
  FrameKnown's closures: fields of lengths, of a coding.
  Conditions: those that each theorem names.
-/
import Derived.Test.YtcpohdejdiljnaaDoorFW
namespace Go.Proofs.YtcpohdejdiljnaaDoor
open Go.RowKit

set_option maxHeartbeats 4000000 in
set_option maxRecDepth 100000 in
theorem cl_any {P : Nat → Prop} (w : World) (A : Option Addr) (ss : List (List UInt8)) (n c : Nat) (hn : ss.length = n) (hmax : n ≤ 1000000) (h : SrcS w P A ss) :
    Calls Tryd.prog 20 #[.slice A n c] w (GotF (ss.map fun s => (clN, s)) w) := by
  have HN := Lib.hid hn
  have H := Lib.hid h
  clear hn h
  go_enter Tryd.func20, Tryd.ntmps20
  go_wp2_with fail
  go_loopw [3, 8, 5] (fun v vi vs wr => ∃ (k : Nat) (o : Option Nat) (r : List Fld), vi = .int .i64 (k : Int) ∧ k ≤ n ∧ Hid ((ss.take k).map (fun s => (clN, s)) = r) ∧ Hid (OwnF wr v o r) ∧ Hid (∀ b, o = some b → w.heap.size ≤ b) ∧ Hid (Below w.heap.size w wr)) (fun _ vi _ _ => n - (intOf vi).toNat)
  case atStart => exact ⟨0, none, [], rfl, Nat.zero_le _, Lib.hid rfl, Lib.hid (OwnF.nil _), Lib.hid (fun _ h => by cases h), Lib.hid (Below.refl _ _)⟩
  case round =>
    obtain ⟨k, o, r, rfl, hk, HR, HO, HOB, HB⟩ := hrel
    by_cases hlt : k < n
    · obtain ⟨p, x, hx, hat, y0, _, _⟩ := H.out.at (c := c) HN.out hlt HB.out
      have HT := Lib.hid (show (ss.take (k + 1)).map (fun s => (clN, s)) = r ++ [(clN, x)] by rw [take_snoc ss k x hx, List.map_append, HR.out]; rfl)
      have HRL := Lib.hid (show r.length ≤ k by rw [← HR.out]; simp; omega)
      obtain ⟨v', w', o', hrun, own', t', ho'⟩ := run_push_fld wr _ o r (clN, x) HO.out (by have := HRL.out; omega)
      rw [show (clN, x).1.toArray = #[67, 111, 110, 116, 101, 110, 116, 45, 76, 101, 110, 103, 116, 104] from rfl, show (clN, x).2.toArray = x.toArray from rfl] at hrun
      have HP := Lib.hid hrun
      have OO := Lib.hid own'
      have TT := Lib.hid (own_turn HB.out HOB.out t' ho')
      clear hx hrun own' t' ho'
      go_wp2_with (at_builtin; refine append_by rfl (.tmp 12) (.tmp 15) 22 rfl _ _ v' w' rfl rfl HP.out ?_)
      go_roundw
      case rel => exact ⟨k + 1, o', r ++ [(clN, x)], by go_num, hlt, HT, OO, Lib.hid TT.out.2, Lib.hid TT.out.1⟩
      case measure => simp [intOf]; omega
    · have HQ := Lib.hid (show ss.map (fun s => (clN, s)) = r by rw [← HR.out, List.take_of_length_le (by rw [HN.out]; omega)])
      go_wp2_with fail
      go_ret
      exact ⟨_, o, rfl, by rw [HQ.out]; exact HO.out, HOB.out, HB.out⟩

theorem te_any (s : ByteArray) (w : World) : Calls Tryd.prog 21 #[.string s] w fun e w' => e = .returned (.slice (some ⟨w.heap.size, 0, none⟩) 1 1) ∧ w' = w.alloc (.cells #[.string ⟨teN.toArray⟩, .string s] 34) := by
  go_enter Tryd.func21, Tryd.ntmps21
  go_wp2_with fail
  go_ret
  exact ⟨rfl, rfl⟩
end Go.Proofs.YtcpohdejdiljnaaDoor
