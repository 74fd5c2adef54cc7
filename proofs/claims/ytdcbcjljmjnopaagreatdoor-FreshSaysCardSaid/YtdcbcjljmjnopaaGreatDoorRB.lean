/-
  What the document's own text functions do (the reference): Lower, Same, Quote, Trim.
  Conditions: those that each theorem names.
-/
import Derived.Test.YtdcbcjljmjnopaaGreatDoorBL
import Derived.Test.YtdcbcjljmjnopaaGreatDoorWords
namespace Go.Proofs.YtdcbcjljmjnopaaGreatDoor
open Go.RowKit

def shownB (c : UInt8) : Bool := c == 9 || (32 ≤ c && c ≤ 126) || 128 ≤ c
theorem shownB_nat (c : UInt8) : shownB c = (((c.toNat : Int) == 9) || (decide (32 ≤ (c.toNat : Int)) && decide ((c.toNat : Int) ≤ 126)) || decide (128 ≤ (c.toNat : Int))) := by
  unfold shownB
  rw [Bool.eq_iff_iff]
  simp [UInt8.le_iff_toNat_le, ← UInt8.toNat_inj]
  omega

set_option maxHeartbeats 400000 in
set_option maxRecDepth 100000 in
theorem shown_any (c : UInt8) (w : World) : Calls Tryz.prog 89 #[.int .u8 c.toNat] w fun e w' => e = .returned (.bool (shownB c)) ∧ w = w' := by
  have hs := shownB_nat c
  have HS := Lib.hid hs
  clear hs
  go_enter Tryz.func89, Tryz.ntmps89
  go_wp2
  all_goals
    go_ret
    refine ⟨ret_bool ?_, rfl⟩
    rw [HS.out, Bool.eq_iff_iff]
    clear HS
    simp
  all_goals omega

def visF (l : List UInt8) : Bool := l.all shownB
theorem visF_no (l : List UInt8) (k : Nat) (c : UInt8) (h : l[k]? = some c) (hc : shownB c = false) : visF l = false := by
  have hm : c ∈ l := List.mem_of_getElem? h
  unfold visF
  rw [Bool.eq_false_iff]
  intro hall
  have := List.all_eq_true.1 hall c hm
  rw [hc] at this
  cases this


/-- The signs that a token may have. -/
def signsS : ByteArray := ⟨#[33, 35, 36, 37, 38, 39, 42, 43, 45, 46, 94, 95, 96, 124, 126]⟩
def alnumB (c : UInt8) : Bool := (97 ≤ c && c ≤ 122) || (65 ≤ c && c ≤ 90) || (48 ≤ c && c ≤ 57)
def signB (c : UInt8) (k : Nat) : Bool := alnumB c || ((bl signsS).take k).any (· == c)
def tokB (c : UInt8) : Bool := signB c 15
def tokF (l : List UInt8) : Bool := !l.isEmpty && l.all tokB
theorem alnumB_nat (c : UInt8) : alnumB c = ((decide (97 ≤ (c.toNat : Int)) && decide ((c.toNat : Int) ≤ 122)) || (decide (65 ≤ (c.toNat : Int)) && decide ((c.toNat : Int) ≤ 90)) || (decide (48 ≤ (c.toNat : Int)) && decide ((c.toNat : Int) ≤ 57))) := by
  unfold alnumB
  rw [Bool.eq_iff_iff]
  simp [UInt8.le_iff_toNat_le]
  omega
theorem tokF_no (l : List UInt8) (k : Nat) (c : UInt8) (h : l[k]? = some c) (hc : signB c 15 = false) : tokF l = false := by
  have hm : c ∈ l := List.mem_of_getElem? h
  unfold tokF
  rw [Bool.and_eq_false_iff]
  right
  rw [Bool.eq_false_iff]
  intro hall
  have := List.all_eq_true.1 hall c hm
  rw [tokB, hc] at this
  cases this
theorem signB_zero (c : UInt8) : signB c 0 = alnumB c := by simp [signB]
theorem signB_succ (c : UInt8) (k : Nat) (h : k < signsS.size) : signB c (k + 1) = (signB c k || ((signsS[k].toNat : Int) == (c.toNat : Int))) := by
  unfold signB
  rw [bl_take _ _ h, List.any_append, Bool.or_assoc]
  congr 2
  rw [Bool.eq_iff_iff]
  simp [← UInt8.toNat_inj]
  omega

set_option maxHeartbeats 1000000 in
set_option maxRecDepth 100000 in
theorem token_any (s : ByteArray) (w : World) (hs : s.size ≤ maxLen) : Calls Tryz.prog 67 #[.string s] w fun e w' => e = .returned (.bool (tokF (bl s))) ∧ w = w' := by
  unfold maxLen at hs
  go_enter Tryz.func67, Tryz.ntmps67
  go_wp2
  rw [show (⟨#[33, 35, 36, 37, 38, 39, 42, 43, 45, 46, 94, 95, 96, 124, 126]⟩ : ByteArray) = signsS from rfl]
  have hz1 : signsS.size ≤ 15 := by decide
  have hz2 : 15 ≤ signsS.size := by decide
  go_loopw [4] (fun i wx => ∃ k : Nat, k ≤ s.size ∧ i = .int .i64 k ∧ ((bl s).take k).all tokB = true ∧ w = wx) (fun i _ => s.size - (intOf i).toNat)
  case atStart => exact ⟨0, Nat.zero_le _, rfl, rfl, rfl⟩
  case round =>
    obtain ⟨k, hk, rfl, hall, rfl⟩ := hrel
    have HALL := Lib.hid hall
    clear hall
    by_cases hlt : k < s.size
    · go_upto_region 6 with fail
      go_cut [6] (fun v wx => v = .bool (signB s[k] 0) ∧ w = wx)
      case first =>
        have ha := alnumB_nat s[k]
        have HA := Lib.hid ha
        clear ha
        go_wp2
        all_goals
          go_meet
          refine ⟨?_, rfl⟩
          rw [signB_zero, HA.out]
          clear HA
          congr 1
          rw [Bool.eq_iff_iff]
          simp
        all_goals omega
      case rest =>
        obtain ⟨rfl, rfl⟩ := hcut
        go_wp2
        go_loopw [6, 7] (fun v j wx => ∃ n : Nat, n ≤ signsS.size ∧ j = .int .i64 n ∧ v = .bool (signB s[k] n) ∧ w = wx) (fun _ j _ => signsS.size - (intOf j).toNat)
        case atStart => exact ⟨0, Nat.zero_le _, rfl, rfl, rfl⟩
        case round =>
          obtain ⟨n, hn, rfl, rfl, rfl⟩ := hrel
          by_cases hln : n < signsS.size
          · have hsu := signB_succ s[k] n hln
            have HSU := Lib.hid hsu
            clear hsu
            cases hb : signB s[k] n with
            | true =>
              have HB := Lib.hid hb
              clear hb
              go_wp2
              exact ⟨⟨n + 1, hln, by simp, by rw [HSU.out, HB.out]; rfl, trivial⟩, by simp [intOf]; omega⟩
            | false =>
              have HB := Lib.hid hb
              clear hb
              go_wp2
              exact ⟨⟨n + 1, hln, by simp, by rw [HSU.out, HB.out]; simp, trivial⟩, by simp [intOf]; omega⟩
          · obtain rfl : n = 15 := by omega
            cases hb : signB s[k] 15 with
            | true =>
              have HB := Lib.hid hb
              clear hb
              go_wp2
              exact ⟨⟨k + 1, hlt, by simp, by rw [bl_take s k hlt]; simp only [List.all_append, List.all_cons, List.all_nil, tokB, HB.out, Bool.and_true]; exact HALL.out, trivial⟩, by simp [intOf]; omega⟩
            | false =>
              have HB := Lib.hid hb
              clear hb
              go_wp2
              go_ret
              exact ⟨ret_bool (tokF_no _ k _ (bl_get s k hlt) HB.out).symm, rfl⟩
    · go_wp2
      go_ret
      refine ⟨ret_bool ?_, rfl⟩
      have h := HALL.out
      rw [List.take_of_length_le (by rw [bl_length]; omega)] at h
      unfold tokF
      rw [h, Bool.and_true, ← bl_length, Bool.eq_iff_iff]
      simp [List.length_pos_iff]
end Go.Proofs.YtdcbcjljmjnopaaGreatDoor

namespace Go.Proofs.YtdcbcjljmjnopaaGreatDoor
open Go.RowKit

/-- append(v, c), c laid down in a block of one cell. -/
theorem run_push1 (w : World) (v : Value) (o : Option Nat) (bs : List UInt8) (c : UInt8) (z : Int) (hz : z = (c.toNat : Int)) (h : Own w v o bs) (hlen : bs.length < 140737488355328) :
    ∃ (v' : Value) (w' : World) (o' : Option Nat), (Builtin.append_ #[24, 24] 24 #[v, .slice (some ⟨w.heap.size, 0, none⟩) 1 1]).run Tryz.prog (w.alloc (.cells #[.int .u8 z] 5)) = .ok v' w' ∧ Own w' v' o' (bs ++ [c]) ∧
      Turn (fun k => o = some k) w w' ∧ (∀ k, o' = some k → o = some k ∨ w.heap.size ≤ k) := by
  subst hz
  have t0 : Turn (fun _ => False) w (w.alloc (.cells #[.int .u8 c.toNat] 5)) := (Turn.refl _ _).alloc _
  have hi : Is (w.alloc (.cells #[.int .u8 c.toNat] 5)) w.heap.size 5 (vals [c]) := Is.made w 5 (vals [c])
  obtain ⟨v', w', o', h1, h2, h3, h4⟩ := run_append_src _ v o bs [c] (h.kept t0 (fun _ _ h => h)) _ 1 1 rfl (hi.src (fun _ => True) trivial) (by simp; omega)
  refine ⟨v', w', o', h1, h2, (t0.mono (fun _ _ h => h.elim)).trans h3 (fun _ _ h => h), fun k hk => ?_⟩
  rcases h4 with h | h
  · left; rw [← h, hk]
  · right
    rw [h] at hk
    injection hk with hk
    simp at hk
    omega

/-- A slice of one byte, just laid down. -/
theorem own_one (w : World) (c : UInt8) (z : Int) (hz : z = (c.toNat : Int)) : Own (w.alloc (.cells #[.int .u8 z] 5)) (.slice (some ⟨w.heap.size, 0, none⟩) 1 1) (some w.heap.size) [c] := by
  subst hz
  exact ⟨⟨rfl, .inr ⟨w.heap.size, 1, #[.int .u8 c.toNat], rfl, Nat.zero_le _, heap_alloc_new w _, Nat.le_refl _, by simp only [maxLen]; omega, rfl, rfl⟩⟩, rfl⟩

def lowB (c : UInt8) : UInt8 := if 65 ≤ c ∧ c ≤ 90 then c + 32 else c
def lowF (l : List UInt8) : List UInt8 := l.map lowB
theorem lowB_yes (c : UInt8) (h : 65 ≤ (c.toNat : Int)) (h' : (c.toNat : Int) ≤ 90) : (c.toNat : Int) + 32 = ((lowB c).toNat : Int) := by
  unfold lowB
  rw [if_pos ⟨by rw [UInt8.le_iff_toNat_le]; show 65 ≤ c.toNat; omega, by rw [UInt8.le_iff_toNat_le]; show c.toNat ≤ 90; omega⟩, UInt8.toNat_add]
  show _ = (((c.toNat + 32) % 256 : Nat) : Int)
  omega
theorem lowB_no (c : UInt8) (h : ¬ (65 ≤ (c.toNat : Int) ∧ (c.toNat : Int) ≤ 90)) : lowB c = c := by
  unfold lowB
  rw [if_neg]
  rintro ⟨h1, h2⟩
  rw [UInt8.le_iff_toNat_le] at h1 h2
  have e1 : (65 : UInt8).toNat = 65 := rfl
  have e2 : (90 : UInt8).toNat = 90 := rfl
  omega

/-- A text in new memory, or none; what was there stays. -/
def Text (l : List UInt8) (w : World) (e : Ending) (w' : World) : Prop := e = .returned (.string ⟨l.toArray⟩) ∧ Below w.heap.size w w'

def BuildRel (W : World) (n : Nat) (f : Nat → List UInt8) (v i : Value) (wx : World) : Prop :=
  ∃ (k : Nat) (o : Option Nat), k ≤ n ∧ i = .int .i64 (k : Int) ∧ Own wx v o (f k) ∧ (∀ b, o = some b → W.heap.size ≤ b) ∧ Below W.heap.size W wx

theorem BuildRel.step {W wr w' : World} {n k : Nat} {f : Nat → List UInt8} {v' : Value} {o o' : Option Nat} (hk : k < n) (hown : Own w' v' o' (f (k + 1))) (ho : ∀ b, o = some b → W.heap.size ≤ b) (hB : Below W.heap.size W wr) (ht : Turn (fun b => o = some b) wr w')
    (ho' : ∀ b, o' = some b → o = some b ∨ wr.heap.size ≤ b) (i : Int) (hi : i = (k : Int) + 1) : BuildRel W n f v' (.int .i64 i) w' := by
  subst hi
  refine ⟨k + 1, o', hk, by simp, hown, fun b hb => ?_, hB.trans ⟨ht.os, ht.tape, ht.output, ht.size, fun b hb => ht.block b (by have := hB.size; omega) (fun h => by have := ho b h; omega)⟩⟩
  have := hB.size
  rcases ho' b hb with h | h
  · exact ho b h
  · omega

def lowTo (s : ByteArray) (k : Nat) : List UInt8 := lowF ((bl s).take k)
theorem lowTo_length (s : ByteArray) (k : Nat) : (lowTo s k).length ≤ k := by simp [lowTo, lowF]; omega
theorem lowTo_succ (s : ByteArray) (k : Nat) (h : k < s.size) : lowTo s (k + 1) = lowTo s k ++ [lowB s[k]] := by
  unfold lowTo
  rw [bl_take s k h]
  simp [lowF]
theorem lowTo_all (s : ByteArray) (k : Nat) (h : s.size ≤ k) : lowTo s k = lowF (bl s) := by
  unfold lowTo
  rw [List.take_of_length_le (by rw [bl_length]; exact h)]

theorem run_made_text (w : World) (v : Value) (o : Option Nat) (bs : List UInt8) (h : Own w v o bs) : (convert 24 9 v).run Tryz.prog w = .ok (.string ⟨bs.toArray⟩) w := by
  obtain ⟨A, c, rfl, hs⟩ := h.src (fun _ => True) (fun _ _ => trivial)
  exact run_text w A bs _ c rfl hs

set_option maxHeartbeats 1000000 in
set_option maxRecDepth 100000 in
theorem lower_any (s : ByteArray) (W : World) (hs : s.size ≤ 140737488351232) : Calls Tryz.prog 68 #[.string s] W (Text (lowF (bl s)) W) := by
  go_enter Tryz.func68, Tryz.ntmps68
  go_wp2
  go_loopw [3, 4] (fun v i wx => BuildRel W s.size (lowTo s) v i wx) (fun _ i _ => s.size - (intOf i).toNat)
  case atStart => exact ⟨0, none, Nat.zero_le _, rfl, Own.nil _, (fun _ h => by cases h), Below.refl _ _⟩
  case round =>
    obtain ⟨k, o, hk, rfl, hown, ho, hB⟩ := hrel
    have HO := Lib.hid ho
    clear ho
    have hlen := lowTo_length s k
    by_cases hlt : k < s.size
    · have HS := Lib.hid (lowTo_succ s k hlt)
      by_cases hup : 65 ≤ (s[k].toNat : Int) ∧ (s[k].toNat : Int) ≤ 90
      · obtain ⟨h1, h2⟩ := hup
        have he := lowB_yes s[k] h1 h2
        obtain ⟨v', w', o', hrun, own', t', ho'⟩ := run_push1 wr u3 o _ (lowB s[k]) _ rfl hown (by omega)
        have HR := Lib.hid hrun
        have HO' := Lib.hid ho'
        rw [← HS.out] at own'
        clear hrun ho'
        go_wp2_with (at_builtin; refine append_by rfl (.tmp 21) (.tmp 26) 24 rfl _ _ v' w' rfl rfl HR.out ?_)
        exact ⟨BuildRel.step hlt own' HO.out hB t' HO'.out _ rfl, by simp [intOf]; omega⟩
      · have he := lowB_no s[k] hup
        obtain ⟨v', w', o', hrun, own', t', ho'⟩ := run_push1 wr u3 o _ s[k] _ rfl hown (by omega)
        have HR := Lib.hid hrun
        have HO' := Lib.hid ho'
        rw [he] at HS
        rw [← HS.out] at own'
        clear hrun ho' he
        go_wp2_with (at_builtin; refine append_by rfl (.tmp 28) (.tmp 32) 24 rfl _ _ v' w' rfl rfl HR.out ?_)
        all_goals first
          | exact ⟨BuildRel.step hlt own' HO.out hB t' HO'.out _ rfl, by simp [intOf]; omega⟩
          | (exfalso; omega)
    · have hr := run_made_text wr u3 o _ hown
      rw [lowTo_all s k (by omega)] at hr
      go_wp2
      go_ret
      exact ⟨rfl, hB⟩

set_option maxHeartbeats 400000 in
set_option maxRecDepth 100000 in
theorem same_any (s t : ByteArray) (W : World) (hs : s.size ≤ 140737488351232) (ht : t.size ≤ 140737488351232) : Calls Tryz.prog 47 #[.string s, .string t] W fun e w' => e = .returned (.bool (lowF (bl s) == lowF (bl t))) ∧ Below W.heap.size W w' := by
  go_enter Tryz.func47, Tryz.ntmps47
  go_wp2_with fail
  refine (lower_any s W hs).mono ?_
  rintro e w1 ⟨rfl, b1⟩
  go_wp2_with fail
  refine (lower_any t w1 ht).mono ?_
  rintro e w2 ⟨rfl, b2⟩
  go_wp2_with fail
  go_ret
  exact ⟨rfl, b1.trans (b2.mono b1.size)⟩
end Go.Proofs.YtdcbcjljmjnopaaGreatDoor
