/-
  Texts as lists of bytes: small words.
  Conditions: those that each theorem names.
-/
import Derived.Test.YtdcbcjljmjnopaaGreatDoorProg
import Derived.WalkKit
import Derived.WalkSpells
import Derived.WalkLawsBesides
import Derived.Deep.QuietTactic
import Derived.BigQuiet
import Derived.Lib.Hide
import Derived.Deep.DeepCutAuto
import Derived.Deep.CutBlock
namespace Go.Proofs.YtdcbcjljmjnopaaGreatDoor
open Go.RowKit

/-- A text's bytes. -/
def bl (s : ByteArray) : List UInt8 := s.data.toList
theorem bl_length (s : ByteArray) : (bl s).length = s.size := by simp [bl]
theorem bl_get (s : ByteArray) (k : Nat) (h : k < s.size) : (bl s)[k]? = some s[k] := by
  have h' : k < s.data.size := h
  simp only [bl, Array.getElem?_toList, Array.getElem?_eq_getElem h']
  rfl
theorem bl_mk (l : List UInt8) : bl ⟨l.toArray⟩ = l := by simp [bl]
theorem mk_bl (s : ByteArray) : (⟨(bl s).toArray⟩ : ByteArray) = s := by
  cases s
  simp [bl]
theorem bl_take (s : ByteArray) (k : Nat) (h : k < s.size) : (bl s).take (k + 1) = (bl s).take k ++ [s[k]] := by
  rw [List.take_add_one, bl_get s k h]
  rfl
theorem bl_drop (s : ByteArray) (k : Nat) (h : k < s.size) : (bl s).drop k = s[k] :: (bl s).drop (k + 1) := by
  have hl : k < (bl s).length := by rw [bl_length]; exact h
  rw [List.drop_eq_getElem_cons hl]
  congr 1
theorem ret_bool {a b : Bool} (h : a = b) : Ending.returned (.bool a) = .returned (.bool b) := by rw [h]
/-- The piece of a text from k to m. -/
def piece (s : ByteArray) (k m : Nat) : List UInt8 := ((bl s).drop k).take (m - k)
theorem piece_last (s : ByteArray) (k m : Nat) (h : k < m) (hm : m ≤ s.size) : piece s k m = piece s k (m - 1) ++ [s[m - 1]'(by omega)] := by
  unfold piece
  obtain ⟨n, rfl⟩ : ∃ n, m = k + n + 1 := ⟨m - k - 1, by omega⟩
  have e1 : k + n + 1 - k = n + 1 := by omega
  have e2 : k + n + 1 - 1 - k = n := by omega
  rw [e1, e2, List.take_add_one, List.getElem?_drop, bl_get s (k + n) (by omega)]
  rfl
theorem piece_self (s : ByteArray) (k : Nat) : piece s k k = [] := by simp [piece]
theorem bl_extract (s : ByteArray) (k m : Nat) : s.extract k m = ⟨(piece s k m).toArray⟩ := by
  have h : bl (s.extract k m) = piece s k m := by
    unfold bl piece
    simp [ByteArray.data_extract, Array.toList_extract, List.extract_eq_take_drop, bl]
  rw [← h, mk_bl]
theorem extract_size (s : ByteArray) (f k : Nat) : (s.extract f k).size ≤ s.size := by
  rw [← bl_length, bl_extract, bl_mk, piece, List.length_take, List.length_drop, bl_length]
  omega
theorem extract_bl (s : ByteArray) (f k : Nat) : bl (s.extract f k) = piece s f k := by rw [bl_extract, bl_mk]
theorem piece_front (s : ByteArray) (k : Nat) : piece s 0 k = (bl s).take k := by simp [piece]
theorem piece_back (s : ByteArray) (k : Nat) : piece s k s.size = (bl s).drop k := by
  rw [piece, List.take_of_length_le (by rw [List.length_drop, bl_length]; exact Nat.le_refl _)]
theorem mk_append (a b : List UInt8) : (⟨a.toArray⟩ : ByteArray) ++ ⟨b.toArray⟩ = ⟨(a ++ b).toArray⟩ := by
  have h : bl ((⟨a.toArray⟩ : ByteArray) ++ ⟨b.toArray⟩) = a ++ b := by simp [bl, ByteArray.data_append]
  rw [← mk_bl ((⟨a.toArray⟩ : ByteArray) ++ ⟨b.toArray⟩), h]
end Go.Proofs.YtdcbcjljmjnopaaGreatDoor
