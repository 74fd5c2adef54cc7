/-
  Package hop's ForAll: among, slices.Contains, slices.Index.
  Conditions: none.
-/
import Derived.Test.YtinibacmhmmcdaaDoorVE
namespace Go.Proofs.YtinibacmhmmcdaaDoor.Hop
open Go.RowKit

set_option maxHeartbeats 4000000 in
set_option maxRecDepth 100000 in
theorem index_str {P : Nat → Prop} (w : World) (A : Option Addr) (ls : List (List UInt8)) (n c : Nat) (hn : ls.length = n) (hmax : n ≤ 140737488351232) (h : SrcS w P A ls) (s : ByteArray) :
    Calls Tryd.prog 65 #[.slice A n c, .string s] w fun e w' => ∃ i : Int, e = .returned (.int .i64 i) ∧ Hit (fun x => x == bl s) ls i ∧ Below w.heap.size w w' := by
  have HN := Lib.hid hn
  have H := Lib.hid h
  clear hn h
  go_enter Tryd.func65, Tryd.ntmps65
  go_wp2_with fail
  go_loopw [8] (fun vi wr => ∃ k : Nat, vi = .int .i64 (k : Int) ∧ k ≤ n ∧ Hid ((ls.take k).any (fun x => x == bl s) = false) ∧ Hid (Below w.heap.size w wr)) (fun vi _ => n - (intOf vi).toNat)
  case atStart => exact ⟨0, rfl, Nat.zero_le _, Lib.hid rfl, Lib.hid (Below.refl _ _)⟩
  case round =>
    obtain ⟨k, rfl, hk, HE, HB⟩ := hrel
    by_cases hlt : k < n
    · obtain ⟨pa, x, hx, hat, y2, _, _⟩ := H.out.at (c := c) HN.out hlt HB.out
      have HTK := Lib.hid (show (ls.take (k + 1)).any (fun x => x == bl s) = (x == bl s) by rw [take_snoc ls k x hx, List.any_append, HE.out]; simp)
      have HX := Lib.hid hx
      obtain ⟨Xs, hXs⟩ : ∃ Xs : ByteArray, Xs = ⟨x.toArray⟩ := ⟨_, rfl⟩
      have hbx : x = bl Xs := by rw [hXs, bl_mk]
      rw [← hXs] at y2
      have e1 : s.toList = bl s := by rw [Lib.toList_data]; rfl
      have e2 : Xs.toList = x := by rw [Lib.toList_data, hbx]; rfl
      clear hXs hbx hx
      cases hb : (x == bl s) with
      | false =>
        have e3 : (s.toList == Xs.toList) = false := by rw [e1, e2, ← hb]; exact Bool.beq_comm
        rw [hb] at HTK
        clear hb e1 e2
        go_wp2_with fail
        go_roundw
        case rel => exact ⟨k + 1, by go_num, hlt, HTK, HB⟩
        case measure => simp [intOf]; omega
      | true =>
        have e3 : (s.toList == Xs.toList) = true := by rw [e1, e2, ← hb]; exact Bool.beq_comm
        have HP := Lib.hid hb
        clear hb e1 e2
        go_wp2_with fail
        go_ret
        exact ⟨(k : Int), rfl, .inr ⟨k, x, rfl, HX.out, HP.out, HE.out⟩, HB.out⟩
    · have HN := Lib.hid (show ls.any (fun x => x == bl s) = false by rw [← HE.out, List.take_of_length_le (by rw [HN.out]; omega)])
      go_wp2_with fail
      go_ret
      exact ⟨-1, rfl, .inl ⟨rfl, HN.out⟩, HB.out⟩
theorem contains_str {P : Nat → Prop} (w : World) (A : Option Addr) (ls : List (List UInt8)) (n c : Nat) (hn : ls.length = n) (hmax : n ≤ 140737488351232) (h : SrcS w P A ls) (s : ByteArray) :
    Calls Tryd.prog 60 #[.slice A n c, .string s] w fun e w' => e = .returned (.bool (ls.any fun x => x == bl s)) ∧ Below w.heap.size w w' := by
  have CI := Lib.hid (index_str w A ls n c hn hmax h s)
  clear hn hmax h
  go_enter Tryd.func60, Tryd.ntmps60
  go_wp2_with fail
  refine CI.out.mono ?_
  rintro e w' ⟨i, rfl, hi, b'⟩
  have hh := hi.any
  clear hi
  go_wp2_with fail
  go_ret
  exact ⟨by rw [← hh]; rfl, b'⟩
theorem among_any {P : Nat → Prop} (w : World) (A : Option Addr) (ls : List (List UInt8)) (n c : Nat) (hn : ls.length = n) (hmax : n ≤ 140737488351232) (h : SrcS w P A ls) (s : ByteArray) :
    Calls Tryd.prog 37 #[.string s, .slice A n c] w fun e w' => e = .returned (.bool (ls.any fun x => x == lowF (bl s))) ∧ Below w.heap.size w w' := by
  have CL := Lib.hid (fun W : World => ty_lower s W)
  have CC := Lib.hid (fun (W : World) (hB : Below w.heap.size w W) => contains_str W A ls n c hn hmax (h.below hB) ⟨(lowF (bl s)).toArray⟩)
  rw [bl_mk] at CC
  clear hn hmax h
  go_enter Tryd.func37, Tryd.ntmps37
  go_wp2_with fail
  refine (CL.out _).mono ?_
  rintro e w1 ⟨rfl, b1⟩
  go_wp2_with fail
  refine (CC.out _ b1).mono ?_
  rintro e w2 ⟨rfl, b2⟩
  go_wp2_with fail
  go_ret
  exact ⟨rfl, b1.trans (b2.mono b1.size)⟩

/-- A list of texts, just laid down. -/
theorem srcs_made (w : World) (ls : List (List UInt8)) : SrcS (w.alloc (.cells (strs ls).toArray 9)) (fun _ => True) (some ⟨w.heap.size, 0, none⟩) ls := fun _ => by
  have hi : Is (w.alloc (.cells (strs ls).toArray 9)) w.heap.size 9 (strs ls) := Is.made w 9 (strs ls)
  refine ⟨_, rfl, trivial, by simp, fun i l hl => ?_⟩
  rw [add_at, Nat.zero_add, hi.cell]
  simp [strs, hl]
def allV : Array Value := #[.string ⟨#[97, 103, 101]⟩, .string ⟨#[97, 117, 116, 104, 111, 114, 105, 122, 97, 116, 105, 111, 110]⟩, .string ⟨#[99, 97, 99, 104, 101, 45, 99, 111, 110, 116, 114, 111, 108]⟩, .string ⟨#[99, 111, 110, 116, 101, 110, 116, 45, 101, 110, 99, 111, 100, 105, 110, 103]⟩, .string ⟨#[99, 111, 110, 116, 101, 110, 116, 45, 108, 111, 99, 97, 116, 105, 111, 110]⟩, .string ⟨#[99, 111, 110, 116, 101, 110, 116, 45, 114, 97, 110, 103, 101]⟩, .string ⟨#[99, 111, 110, 116, 101, 110, 116, 45, 116, 121, 112, 101]⟩, .string ⟨#[100, 97, 116, 101]⟩, .string ⟨#[101, 116, 97, 103]⟩, .string ⟨#[101, 120, 112, 105, 114, 101, 115]⟩, .string ⟨#[104, 111, 115, 116]⟩, .string ⟨#[105, 102, 45, 109, 97, 116, 99, 104]⟩, .string ⟨#[105, 102, 45, 109, 111, 100, 105, 102, 105, 101, 100, 45, 115, 105, 110, 99, 101]⟩, .string ⟨#[105, 102, 45, 110, 111, 110, 101, 45, 109, 97, 116, 99, 104]⟩, .string ⟨#[105, 102, 45, 114, 97, 110, 103, 101]⟩, .string ⟨#[105, 102, 45, 117, 110, 109, 111, 100, 105, 102, 105, 101, 100, 45, 115, 105, 110, 99, 101]⟩, .string ⟨#[108, 97, 115, 116, 45, 109, 111, 100, 105, 102, 105, 101, 100]⟩, .string ⟨#[108, 111, 99, 97, 116, 105, 111, 110]⟩, .string ⟨#[112, 114, 97, 103, 109, 97]⟩, .string ⟨#[114, 97, 110, 103, 101]⟩, .string ⟨#[118, 97, 114, 121]⟩, .string ⟨#[118, 105, 97]⟩]
theorem allV_is : (strs allN).toArray = allV := rfl
set_option maxHeartbeats 4000000 in
set_option maxRecDepth 100000 in
theorem forall_any (s : ByteArray) (w : World) : Calls Tryd.prog 16 #[.string s] w fun e w' => e = .returned (.bool (forF (bl s))) ∧ Below w.heap.size w w' := by
  have hs := srcs_made w allN
  have hb : Below w.heap.size w (w.alloc (.cells allV 9)) := (Below.refl _ _).alloc (Nat.le_refl _) _
  rw [allV_is] at hs
  have CA := among_any (w.alloc (.cells allV 9)) (some ⟨w.heap.size, 0, none⟩) allN 22 22 rfl (by omega) hs s
  rw [show (allN.any fun x => x == lowF (bl s)) = forF (bl s) from rfl] at CA
  unfold allV at CA
  have HB := Lib.hid hb
  clear hs hb
  generalize forF (bl s) = q at *
  go_enter Tryd.func16, Tryd.ntmps16
  go_wp2_with fail
  refine CA.mono ?_
  rintro e w2 ⟨rfl, b2⟩
  go_wp2_with fail
  go_ret
  exact ⟨rfl, HB.out.trans (b2.mono HB.out.size)⟩
end Go.Proofs.YtinibacmhmmcdaaDoor.Hop
