/-
  What package text's Trim, Lower and Same do, call by call.
  Conditions: those that each theorem names.
-/
import Derived.Test.YtdcbcjljmjnopaaGreatDoorUB
import Derived.Test.YtdcbcjljmjnopaaGreatDoorShelf
import Derived.ShutString
import Derived.Lib.ConvBytes
namespace Go.Proofs.YtdcbcjljmjnopaaGreatDoor
open Go.RowKit

theorem blank_contains (c : UInt8) : ([32, 9] : List UInt8).contains c = blankB c := by
  unfold blankB
  rw [Bool.eq_iff_iff]
  simp
theorem trim_both (l : List UInt8) : ltrim (rtrim l) = rtrim (ltrim l) := by
  rw [← List.reverse_reverse l]
  generalize l.reverse = r
  induction r with
  | nil => rfl
  | cons c r ih =>
    rw [List.reverse_cons]
    generalize r.reverse = l at *
    have hl : ltrim (l ++ [c]) = if (ltrim l).isEmpty then ltrim [c] else ltrim l ++ [c] := by
      unfold ltrim
      exact List.dropWhile_append
    cases hc : blankB c with
    | true =>
      rw [rtrim_yes c l hc, ih, hl]
      split
      · rename_i h
        rw [List.isEmpty_iff] at h
        rw [h, ltrim_yes c [] hc]
        rfl
      · rw [rtrim_yes c _ hc]
    | false =>
      rw [rtrim_no c l hc, hl]
      split
      · rw [ltrim_no c [] hc]
        exact (rtrim_no c [] hc).symm
      · rw [rtrim_no c _ hc]
theorem trimS_eq (l : List UInt8) : Lib.trimS l [32, 9] = trimF l := by
  have h : (fun c => ([32, 9] : List UInt8).contains c) = blankB := funext blank_contains
  have e : Lib.trimS l [32, 9] = ltrim (rtrim l) := by
    unfold ltrim rtrim Lib.trimS Lib.trimLeftS Lib.trimRightS
    rw [h]
  rw [e, trim_both]
  rfl

def blanksS : ByteArray := ⟨#[32, 9]⟩
theorem trimF_le (l : List UInt8) : (trimF l).length ≤ l.length := by
  have h1 : ∀ x : List UInt8, (x.dropWhile blankB).length ≤ x.length := fun x => (List.dropWhile_sublist _).length_le
  unfold trimF rtrim ltrim
  rw [List.length_reverse]
  refine Nat.le_trans (h1 _) ?_
  rw [List.length_reverse]
  exact h1 _

theorem clone_any (s : ByteArray) (w : World) (hs : s.size ≤ 281474976710656) : Calls Tryz.prog 64 #[.string s] w fun e w' => e = .returned (.string s) ∧ Below w.heap.size w w' := by
  go_enter Tryz.func64, Tryz.ntmps64
  go_wp2_with fail
  refine (Tryz.stringslite_Clone s w hs).mono ?_
  rintro e w9 ⟨rfl, b9⟩
  go_wp2_with fail
  go_ret
  exact ⟨rfl, b9⟩
theorem trims_any (s : ByteArray) (w : World) (hs : s.size ≤ 140737488351232) : Calls Tryz.prog 108 #[.string s, .string blanksS] w (Text (trimF (bl s)) w) := by
  refine (Any.strings_Trim_laid Tryz.lays160 (by kernel_rfl) s blanksS w (by omega) (by decide) (ascii_of_all (by decide))).mono ?_
  rintro e w' ⟨rfl, b⟩
  refine ⟨?_, b⟩
  rw [← trimS_eq]
  rfl
theorem ty_trim (s : ByteArray) (w : World) (hs : s.size ≤ 140737488351232) : Calls Tryz.prog 97 #[.string s] w (Text (trimF (bl s)) w) := by
  have C := Lib.hid (trims_any s w hs)
  have hl := trimF_le (bl s)
  rw [bl_length] at hl
  generalize trimF (bl s) = t at *
  go_enter Tryz.func97, Tryz.ntmps97
  go_wp2_with fail
  refine C.out.mono ?_
  rintro e w1 ⟨rfl, b1⟩
  go_wp2_with fail
  refine (clone_any ⟨t.toArray⟩ w1 (by rw [size_of_list]; omega)).mono ?_
  rintro e w2 ⟨rfl, b2⟩
  go_wp2_with fail
  go_ret
  exact ⟨rfl, b1.trans (b2.mono b1.size)⟩

/-- Block g is a row whose first n cells are the bytes bs, and may be written. -/
def Row (w : World) (g : Nat) (bs : List UInt8) : Prop := ∃ (cur : Array Value) (fz : Nat × Nat), w.heap[g]? = some (.cells cur 5 fz) ∧ bs.length ≤ fz.1 ∧ bs.length ≤ cur.size ∧ ∀ (i : Nat) (c : UInt8), bs[i]? = some c → cur[i]? = some (B c)
theorem Row.lt {w : World} {g : Nat} {bs : List UInt8} (h : Row w g bs) : g < w.heap.size := by
  obtain ⟨cur, fz, h, _⟩ := h
  exact (Array.getElem?_eq_some_iff.1 h).1
theorem Row.cell {w : World} {g : Nat} {bs : List UInt8} (h : Row w g bs) (i : Nat) (c : UInt8) (hi : bs[i]? = some c) : w.cell? ⟨g, i, none⟩ = some (.int .u8 (c.toNat : Int)) := by
  obtain ⟨cur, fz, h, _, _, hc⟩ := h
  simp only [World.cell?, h]
  exact hc i c hi
theorem Row.free {w : World} {g : Nat} {bs : List UInt8} (h : Row w g bs) (i : Nat) (hi : i < bs.length) : w.frozen? ⟨g, i, none⟩ = false := by
  obtain ⟨cur, ⟨lo, hi'⟩, h, h1, _, _⟩ := h
  simp only [World.frozen?, h]
  simp only at h1
  simp
  omega
theorem Row.kept {w w' : World} {g : Nat} {bs : List UInt8} {S : Nat → Prop} (h : Row w g bs) (ht : Turn S w w') (hg : ¬ S g) : Row w' g bs := by
  have hlt := h.lt
  obtain ⟨cur, fz, h, r⟩ := h
  exact ⟨cur, fz, (ht.block g hlt hg).trans h, r⟩
theorem Row.set {w : World} {g : Nat} {bs : List UInt8} (h : Row w g bs) (i : Nat) (c : UInt8) : Row (w.setCell ⟨g, i, none⟩ (.int .u8 (c.toNat : Int))) g (bs.set i c) := by
  obtain ⟨cur, fz, h, h1, h2, hc⟩ := h
  refine ⟨cur.setIfInBounds i (B c), fz, ?_, by simpa using h1, by simpa using h2, fun j d hj => ?_⟩
  · simp [World.setCell, Array.getElem?_modify, h, B]
  · rw [List.getElem?_set] at hj
    split at hj
    · rename_i hij
      subst hij
      split at hj
      · rename_i hlt
        injection hj with hj
        subst hj
        rw [Array.getElem?_setIfInBounds_self_of_lt (by omega)]
      · cases hj
    · rename_i hij
      rw [Array.getElem?_setIfInBounds_ne hij]
      exact hc j d hj
theorem Row.src {w : World} {g : Nat} {bs : List UInt8} (h : Row w g bs) : Src w (fun _ => True) (some ⟨g, 0, none⟩) bs := by
  intro _
  refine ⟨_, rfl, trivial, h.lt, fun i v hv => ?_⟩
  rw [vals_get, Option.map_eq_some_iff] at hv
  obtain ⟨c, hc, rfl⟩ := hv
  rw [add_at, Nat.zero_add]
  exact h.cell i c hc
/-- []byte(s). -/
theorem run_to_bytes (w : World) (s : ByteArray) : ∃ (cap : Nat) (w1 : World), (convert 9 24 (.string s)).run Tryz.prog w = .ok (.slice (some ⟨w.heap.size, 0, none⟩) s.size cap) w1 ∧ Row w1 w.heap.size (bl s) ∧ Below w.heap.size w w1 ∧ w1.heap.size = w.heap.size + 1 := by
  have hz : s.size ≤ (Lib.bytesCells w 5 s).size := by
    unfold Lib.bytesCells
    rw [Array.size_append, Array.size_map]
    exact Nat.le_add_right _ _
  refine ⟨_, _, Lib.run_convert_string_bytes w 9 24 5 s Tryz.underlying9 Tryz.underlying24 Tryz.underlying5, ?_, ?_, Lib.bytesWorld_size w 5 s⟩
  · refine ⟨_, _, Lib.bytesWorld_at_new w 5 s, ?_, ?_, fun i c hi => ?_⟩
    · rw [bl_length]
      exact hz
    · rw [bl_length]
      exact hz
    · have hlt : i < (bl s).length := (List.getElem?_eq_some_iff.1 hi).1
      rw [bl_length] at hlt
      have hlt' : i < s.data.size := hlt
      unfold Lib.bytesCells
      rw [Array.getElem?_append_left (by simpa using hlt')]
      simp only [Array.getElem?_map]
      simp only [bl, Array.getElem?_toList] at hi
      rw [hi]
      rfl
  · exact ⟨rfl, rfl, rfl, by rw [Lib.bytesWorld_size]; omega, fun k hk => Lib.bytesWorld_at_old w 5 s k hk⟩

/-- How far small letters are laid. -/
def lowAt (s : ByteArray) (k : Nat) : List UInt8 := lowF ((bl s).take k) ++ (bl s).drop k
theorem lowAt_length (s : ByteArray) (k : Nat) : (lowAt s k).length = s.size := by
  unfold lowAt lowF
  rw [List.length_append, List.length_map, ← List.length_append, List.take_append_drop, bl_length]
theorem lowAt_get (s : ByteArray) (k : Nat) (h : k < s.size) : (lowAt s k)[k]? = some s[k] := by
  unfold lowAt lowF
  have hl : ((bl s).take k).length = k := by rw [List.length_take, bl_length]; omega
  rw [List.getElem?_append_right (by rw [List.length_map, hl]; exact Nat.le_refl _), List.length_map, hl, Nat.sub_self, bl_drop s k h]
  rfl
theorem lowAt_yes (s : ByteArray) (k : Nat) (h : k < s.size) : lowAt s (k + 1) = (lowAt s k).set k (lowB s[k]) := by
  unfold lowAt lowF
  have hl : ((bl s).take k).length = k := by rw [List.length_take, bl_length]; omega
  rw [bl_take s k h, bl_drop s k h, List.map_append, List.append_assoc, List.set_append_right _ _ (by rw [List.length_map, hl]; exact Nat.le_refl _), List.length_map, hl, Nat.sub_self]
  rfl
theorem lowAt_no (s : ByteArray) (k n : Nat) (h : ∀ c ∈ ((bl s).drop k).take n, lowB c = c) : lowAt s (k + n) = lowAt s k := by
  unfold lowAt lowF
  have h1 : (bl s).drop k = ((bl s).drop k).take n ++ (bl s).drop (k + n) := by
    rw [← List.drop_drop, List.take_append_drop]
  have h2 : (((bl s).drop k).take n).map lowB = ((bl s).drop k).take n := by
    rw [List.map_congr_left (g := id) h, List.map_id]
  rw [List.take_add, List.map_append, h2, List.append_assoc, ← h1]

def LowRel (W : World) (g : Nat) (s : ByteArray) (wx : World) : Prop := ∃ k : Nat, k ≤ s.size ∧ AtIter wx g s k ∧ Row wx W.heap.size (lowAt s k) ∧ Below W.heap.size W wx

set_option maxHeartbeats 1000000 in
set_option maxRecDepth 100000 in
theorem ty_lower (s : ByteArray) (W : World) : Calls Tryz.prog 65 #[.string s] W (Text (lowF (bl s)) W) := by
  obtain ⟨cap, w0, hcv, row0, b0, z0⟩ := run_to_bytes W s
  have hz : W.heap.size < w0.heap.size := by omega
  clear z0
  go_enter Tryz.func65, Tryz.ntmps65
  go_wp2_with fail
  go_loopw [4, 5] (fun _ _ wx => LowRel W w0.heap.size s wx) (fun _ _ wx => s.size - wx.iterPos w0.heap.size)
  case atStart => exact ⟨0, Nat.zero_le _, AtIter.start _ _, row0.kept ((Turn.refl (fun _ => False) _).alloc _) (fun h => h), b0.alloc (by omega) _⟩
  case round =>
    clear hcv row0 b0
    obtain ⟨k, hk, hit, row, hB⟩ := hrel
    have HM := Lib.hid hit.pos
    by_cases hlt : k < s.size
    · rcases decode_step s k hlt with ⟨hc, hd⟩ | ⟨hc, r, n, hd, hr1, hr2, hn, hw⟩
      · obtain ⟨w1, hnx, hit1, t1, z1⟩ := next_some (P := Tryz.prog) hit hlt hd
        have hB1 : Below W.heap.size W w1 := hB.trans ⟨t1.os, t1.tape, t1.output, t1.size, fun b hb => t1.block b (by have := hB.size; omega) (by omega)⟩
        have row1 : Row w1 W.heap.size (lowAt s k) := row.kept t1 (by omega)
        have hl := lowAt_length s k
        clear hd z1 t1 row hB
        by_cases hup : 65 ≤ (s[k].toNat : Int) ∧ (s[k].toNat : Int) ≤ 90
        · have hcap : capB s[k].toNat = true := by unfold capB; simp; omega
          have C := Lib.hid (capital_any s[k].toNat w1)
          rw [hcap] at C
          obtain ⟨h1, h2⟩ := hup
          have z := row1.cell k _ (lowAt_get s k hlt)
          have zf := row1.free k (by omega)
          have row2 := row1.set k (lowB s[k])
          rw [← lowAt_yes s k hlt, ← lowB_yes s[k] h1 h2] at row2
          have HR2 := Lib.hid row2
          have HL := Lib.hid hl
          clear hcap row1 row2 hl
          go_wp2_with fail
          refine C.out.mono ?_
          rintro e w9 ⟨rfl, rfl⟩
          go_wp2_with fail
          have t2 : Turn (· = W.heap.size) w1 (w1.setCell ⟨W.heap.size, k, none⟩ (.int .u8 ((s[k].toNat : Int) + 32))) := (Turn.refl (· = W.heap.size) w1).setCell (fun _ => rfl) _
          have hit2 := hit1.kept t2 (by omega)
          refine ⟨⟨k + 1, hlt, hit2, HR2.out, hB1.setCell (Nat.le_refl _) _⟩, ?_⟩
          rw [hit2.pos, HM.out]
          omega
        · have hcap : capB s[k].toNat = false := by unfold capB; simp; omega
          have C := Lib.hid (capital_any s[k].toNat w1)
          rw [hcap] at C
          have HN := Lib.hid (lowAt_no s k 1 (by
            intro c hc'
            rw [bl_drop s k hlt] at hc'
            simp at hc'
            subst hc'
            exact lowB_no _ hup))
          clear hcap hup hl
          go_wp2_with fail
          refine C.out.mono ?_
          rintro e w9 ⟨rfl, rfl⟩
          go_wp2_with fail
          refine ⟨⟨k + 1, hlt, hit1, by rw [HN.out]; exact row1, hB1⟩, ?_⟩
          rw [hit1.pos, HM.out]
          omega
      · obtain ⟨w1, hnx, hit1, t1, z1⟩ := next_some (P := Tryz.prog) hit hlt hd
        have hB1 : Below W.heap.size W w1 := hB.trans ⟨t1.os, t1.tape, t1.output, t1.size, fun b hb => t1.block b (by have := hB.size; omega) (by omega)⟩
        have row1 : Row w1 W.heap.size (lowAt s k) := row.kept t1 (by omega)
        have hcap : capB r = false := by unfold capB; simp; omega
        have C := Lib.hid (capital_any r w1)
        rw [hcap] at C
        have HN := Lib.hid (lowAt_no s k (n + 1) (fun c hc' => lowB_no c (by have := hw c hc'; omega)))
        clear hd z1 t1 row hB hcap hw
        go_wp2_with fail
        refine C.out.mono ?_
        rintro e w9 ⟨rfl, rfl⟩
        go_wp2_with fail
        refine ⟨⟨k + (n + 1), hn, hit1, by rw [HN.out]; exact row1, hB1⟩, ?_⟩
        rw [hit1.pos, HM.out]
        omega
    · have hnx := next_none (P := Tryz.prog) hit hlt
      have hr := run_text wr (some ⟨W.heap.size, 0, none⟩) _ s.size cap (lowAt_length s k) row.src
      rw [show lowAt s k = lowF (bl s) by
        unfold lowAt
        rw [List.take_of_length_le (by rw [bl_length]; omega), List.drop_of_length_le (by rw [bl_length]; omega), List.append_nil]] at hr
      go_wp2_with fail
      go_ret
      exact ⟨rfl, hB⟩

set_option maxHeartbeats 400000 in
set_option maxRecDepth 100000 in
theorem ty_same (s t : ByteArray) (W : World) : Calls Tryz.prog 42 #[.string s, .string t] W fun e w' => e = .returned (.bool (lowF (bl s) == lowF (bl t))) ∧ Below W.heap.size W w' := by
  go_enter Tryz.func42, Tryz.ntmps42
  go_wp2_with fail
  refine (ty_lower s W).mono ?_
  rintro e w1 ⟨rfl, b1⟩
  go_wp2_with fail
  refine (ty_lower t w1).mono ?_
  rintro e w2 ⟨rfl, b2⟩
  go_wp2_with fail
  go_ret
  exact ⟨rfl, b1.trans (b2.mono b1.size)⟩
theorem tx_trim (s : ByteArray) (w : World) (hs : s.size ≤ 1000000000) : Calls Tryz.prog 97 #[.string s] w (Text (trimF (bl s)) w) := ty_trim s w (by omega)
theorem tx_lower (s : ByteArray) (W : World) (_hs : s.size ≤ 1000000000) : Calls Tryz.prog 65 #[.string s] W (Text (lowF (bl s)) W) := ty_lower s W
theorem tx_same (s t : ByteArray) (W : World) (_hs : s.size ≤ 1000000000) (_ht : t.size ≤ 1000000000) : Calls Tryz.prog 42 #[.string s, .string t] W fun e w' => e = .returned (.bool (lowF (bl s) == lowF (bl t))) ∧ Below W.heap.size W w' := ty_same s t W
end Go.Proofs.YtdcbcjljmjnopaaGreatDoor
