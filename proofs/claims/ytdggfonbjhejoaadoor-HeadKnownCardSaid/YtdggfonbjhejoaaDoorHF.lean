/-
  What the reference's With and Put answer.
  Conditions: those that each theorem names.
-/
import Derived.Test.YtdggfonbjhejoaaDoorHE
namespace Go.Proofs.YtdggfonbjhejoaaDoor
open Go.RowKit

theorem srcs_one (w : World) (x : List UInt8) : SrcS (w.alloc (.cells #[.string ⟨x.toArray⟩] 9)) (fun _ => True) (some ⟨w.heap.size, 0, none⟩) [x] := fun _ => by
  refine ⟨_, rfl, trivial, by simp, fun i l hl => ?_⟩
  have hi : Is (w.alloc (.cells #[.string ⟨x.toArray⟩] 9)) w.heap.size 9 [strV x] := Is.made w 9 [strV x]
  rw [add_at, Nat.zero_add, hi.cell]
  match i, hl with
  | 0, hl =>
    simp only [List.getElem?_cons_zero, Option.some.injEq] at hl
    rw [hl]
    rfl

set_option maxHeartbeats 4000000 in
theorem rwith_any {P : Nat → Prop} (w : World) (A : Option Addr) (ls : List Fld) (n c : Nat) (hn : ls.length = n) (hmax : (n + 1) * 32 ≤ 140737488355328) (h : SrcF w P A ls) (hs : Slim ls) (nm v : List UInt8) (hnm : nm.length ≤ 140737488351232) :
    Calls Tryd.prog 24 #[.slice A n c, .string ⟨nm.toArray⟩, .string ⟨v.toArray⟩] w (GotF (withF ls nm v) w) := by
  have hb0 : Below w.heap.size w (w.alloc (.cells #[.string ⟨nm.toArray⟩] 9)) := (Below.refl _ _).alloc (Nat.le_refl _) _
  have CD := Lib.hid (rdrop_any (w.alloc (.cells #[.string ⟨nm.toArray⟩] 9)) A (some ⟨w.heap.size, 0, none⟩) ls [nm] n c 1 1 hn rfl (by omega) (by omega) (h.below hb0) (srcs_one w nm) hs (fun x hx => by
    simp only [List.mem_singleton] at hx
    rw [hx]
    exact hnm))
  have HB0 := Lib.hid hb0
  have HL := Lib.hid (show (dropF ls [nm]).length ≤ n by have := dropF_length ls [nm]; omega)
  have HW := Lib.hid (show withF ls nm v = dropF ls [nm] ++ [(nm, v)] from rfl)
  clear hb0 h hs hnm hn
  generalize dropF ls [nm] = r at *
  generalize withF ls nm v = r' at *
  go_enter Tryd.func24, Tryd.ntmps24
  go_wp2_with fail
  refine CD.out.mono ?_
  rintro e w1 ⟨v1, o, rfl, own, hob, b1⟩
  have OW := Lib.hid own
  have HOB := Lib.hid (fun b hb => Nat.le_trans HB0.out.size (hob b hb))
  have B1 := Lib.hid (HB0.out.trans (b1.mono HB0.out.size))
  clear own hob b1 HB0
  obtain ⟨v', w', o', hrun, own', t', ho'⟩ := run_push_fld w1 v1 o r (nm, v) OW.out (by have := HL.out; omega)
  have HR5 := Lib.hid hrun
  have OO := Lib.hid own'
  have TT := Lib.hid (own_turn B1.out HOB.out t' ho')
  clear hrun own' t' ho'
  simp only at HR5
  go_wp2_with (at_builtin; refine append_by rfl (.tmp 10) (.tmp 14) 23 rfl _ _ v' w' rfl rfl HR5.out ?_)
  go_ret
  exact ⟨_, o', rfl, by rw [HW.out]; exact OO.out, TT.out.2, TT.out.1⟩
end Go.Proofs.YtdggfonbjhejoaaDoor
