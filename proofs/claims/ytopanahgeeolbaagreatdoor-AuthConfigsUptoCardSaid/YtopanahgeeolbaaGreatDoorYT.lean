/-
  What the reference's number, decimal, labels of package uri answer.
  Conditions: those that each theorem names.
-/
import Derived.Test.YtopanahgeeolbaaGreatDoorYS
import Derived.Test.YtopanahgeeolbaaGreatDoorRS
namespace Go.Proofs.YtopanahgeeolbaaGreatDoor.Uri
open Go.RowKit

theorem drop_snoc (s : ByteArray) (k : Nat) (h : k < s.size) (h2 : 2 ≤ k) : ((bl s).take (k + 1)).drop 2 = ((bl s).take k).drop 2 ++ [s[k]] := by
  rw [bl_take s k h, List.drop_append_of_le_length (by rw [List.length_take, bl_length]; omega)]
theorem drop_no (s : ByteArray) (p : UInt8 → Bool) (k : Nat) (h : k < s.size) (h2 : 2 ≤ k) (hc : p s[k] = false) : ((bl s).drop 2).all p = false := by
  refine all_noD _ p s[k] (k - 2) ?_ hc
  rw [List.getElem?_drop, show 2 + (k - 2) = k by omega, bl_get s k h]
set_option maxHeartbeats 4000000 in
set_option maxRecDepth 100000 in
theorem rnumber_any (s : ByteArray) (w : World) (hs : s.size ≤ 1125899906842624) : Calls Tryz.prog 88 #[.string s] w fun e w' => e = .returned (.bool (numericF (bl s))) ∧ w = w' := by
  have he : (s.extract 0 2).toList = (bl s).take 2 := by
    rw [Lib.toList_data]
    show bl (s.extract 0 2) = _
    rw [extract_bl, piece_front]
  by_cases h : (bl s).take 2 = [48, 120]
  · have hsz : 2 ≤ s.size := by
      have := congrArg List.length h
      rw [List.length_take, bl_length] at this
      simp at this
      omega
    have i2 : (2 : Int) ≤ (s.size : Int) := by omega
    have e2 : ((s.extract 0 2).toList == [48, 120]) = true := by rw [he, h]; rfl
    have e3 : (s.extract 0 2).toList = [48, 120] := by rw [he, h]
    have HR := Lib.hid (show numericF (bl s) = ((bl s).drop 2).all hexLB by unfold numericF; rw [if_pos h])
    clear he h
    go_enter Tryz.func88, Tryz.ntmps88
    go_wp2_with fail
    clear e2 e3
    go_loopw [4] (fun vi wr => ∃ k : Nat, vi = .int .i64 (k : Int) ∧ 2 ≤ k ∧ k ≤ s.size ∧ Hid ((((bl s).take k).drop 2).all hexLB = true) ∧ w = wr) (fun vi _ => s.size - (intOf vi).toNat)
    case atStart => exact ⟨2, rfl, Nat.le_refl _, hsz, Lib.hid (by rw [List.drop_of_length_le (by rw [List.length_take]; omega)]; rfl), rfl⟩
    case round =>
      obtain ⟨k, rfl, hk2, hk, HA, rfl⟩ := hrel
      by_cases hlt : k < s.size
      · have HS := Lib.hid (drop_snoc s k hlt hk2)
        have HN := Lib.hid (drop_no s hexLB k hlt hk2)
        have HX := Lib.hid (show hexLB s[k] = ((decide (48 ≤ s[k].toNat) && decide (s[k].toNat ≤ 57)) || (decide (97 ≤ s[k].toNat) && decide (s[k].toNat ≤ 102))) from rfl)
        by_cases h1 : 48 ≤ (s[k].toNat : Int)
        · by_cases h2 : (s[k].toNat : Int) ≤ 57
          · have HA2 := Lib.hid (show (((bl s).take (k + 1)).drop 2).all hexLB = true by rw [HS.out, List.all_append, HA.out, List.all_cons, HX.out, decide_eq_true (by omega), decide_eq_true (by omega)]; rfl)
            clear HS HN HX HA
            go_wp2_with fail
            go_roundw
            case rel => exact ⟨k + 1, by go_num, by omega, hlt, HA2, trivial⟩
            case measure => simp [intOf]; omega
          · by_cases h3 : (s[k].toNat : Int) < 97
            · have HF := Lib.hid (show numericF (bl s) = false by rw [HR.out]; exact HN.out (by rw [HX.out, decide_eq_false (by omega : ¬ s[k].toNat ≤ 57), decide_eq_false (by omega : ¬ 97 ≤ s[k].toNat)]; simp))
              clear HS HN HX HA
              go_wp2_with fail
              go_ret
              exact ⟨ret_bool HF.out.symm, rfl⟩
            · by_cases h4 : (102 : Int) < (s[k].toNat : Int)
              · have HF := Lib.hid (show numericF (bl s) = false by rw [HR.out]; exact HN.out (by rw [HX.out, decide_eq_false (by omega : ¬ s[k].toNat ≤ 57), decide_eq_false (by omega : ¬ s[k].toNat ≤ 102)]; simp))
                clear HS HN HX HA
                go_wp2_with fail
                go_ret
                exact ⟨ret_bool HF.out.symm, rfl⟩
              · have HA2 := Lib.hid (show (((bl s).take (k + 1)).drop 2).all hexLB = true by rw [HS.out, List.all_append, HA.out, List.all_cons, HX.out, decide_eq_true (by omega : 97 ≤ s[k].toNat), decide_eq_true (by omega : s[k].toNat ≤ 102)]; simp)
                clear HS HN HX HA
                go_wp2_with fail
                go_roundw
                case rel => exact ⟨k + 1, by go_num, by omega, hlt, HA2, trivial⟩
                case measure => simp [intOf]; omega
        · have h3 : (s[k].toNat : Int) < 97 := by omega
          have HF := Lib.hid (show numericF (bl s) = false by rw [HR.out]; exact HN.out (by rw [HX.out, decide_eq_false (by omega : ¬ 48 ≤ s[k].toNat), decide_eq_false (by omega : ¬ 97 ≤ s[k].toNat)]; simp))
          clear HS HN HX HA
          go_wp2_with fail
          go_ret
          exact ⟨ret_bool HF.out.symm, rfl⟩
      · have HF := Lib.hid (show numericF (bl s) = true by
          rw [HR.out]
          have := HA.out
          rw [List.take_of_length_le (by rw [bl_length]; omega)] at this
          exact this)
        go_wp2_with fail
        go_ret
        exact ⟨ret_bool HF.out.symm, rfl⟩
  · have HR := Lib.hid (show numericF (bl s) = (bl s).all digB10 by unfold numericF; rw [if_neg h])
    have hg : (decide ((2 : Int) ≤ (s.size : Int)) = false) ∨ ((2 : Int) ≤ (s.size : Int) ∧ (s.extract 0 2).toList ≠ [48, 120]) := by
      by_cases h2 : (2 : Int) ≤ (s.size : Int)
      · exact .inr ⟨h2, by rw [he]; exact h⟩
      · exact .inl (decide_eq_false h2)
    clear he h
    rcases hg with hg | ⟨hg, hne⟩
    · have i2 : ¬ (2 : Int) ≤ (s.size : Int) := of_decide_eq_false hg
      go_enter Tryz.func88, Tryz.ntmps88
      go_wp2_with fail
      go_loopw [4] (fun vi wr => ∃ k : Nat, vi = .int .i64 (k : Int) ∧ k ≤ s.size ∧ Hid (((bl s).take k).all digB10 = true) ∧ w = wr) (fun vi _ => s.size - (intOf vi).toNat)
      case atStart => exact ⟨0, rfl, Nat.zero_le _, Lib.hid rfl, rfl⟩
      case round =>
        obtain ⟨k, rfl, hk, HA, rfl⟩ := hrel
        by_cases hlt : k < s.size
        · have HG := Lib.hid (bl_get s k hlt)
          by_cases h1 : 48 ≤ (s[k].toNat : Int)
          · by_cases h2 : (s[k].toNat : Int) ≤ 57
            · have HA2 := Lib.hid (all_snocD s k hlt HA.out (dig_yes _ h1 h2))
              clear HA
              go_wp2_with fail
              go_roundw
              case rel => exact ⟨k + 1, by go_num, hlt, HA2, trivial⟩
              case measure => simp [intOf]; omega
            · have HF := Lib.hid (show numericF (bl s) = false by rw [HR.out]; exact all_noD _ _ s[k] k HG.out (dig_no _ (fun h => h2 h.2)))
              go_wp2_with fail
              go_ret
              exact ⟨ret_bool HF.out.symm, rfl⟩
          · have HF := Lib.hid (show numericF (bl s) = false by rw [HR.out]; exact all_noD _ _ s[k] k HG.out (dig_no _ (fun h => h1 h.1)))
            go_wp2_with fail
            go_ret
            exact ⟨ret_bool HF.out.symm, rfl⟩
        · have HF := Lib.hid (show numericF (bl s) = true by
            rw [HR.out]
            have := HA.out
            rw [List.take_of_length_le (by rw [bl_length]; omega)] at this
            exact this)
          go_wp2_with fail
          go_ret
          exact ⟨ret_bool HF.out.symm, rfl⟩
    · have e2 : ((s.extract 0 2).toList == [48, 120]) = false := beq_eq_false_iff_ne.2 hne
      go_enter Tryz.func88, Tryz.ntmps88
      go_wp2_with fail
      clear e2 hne
      go_loopw [4] (fun vi wr => ∃ k : Nat, vi = .int .i64 (k : Int) ∧ k ≤ s.size ∧ Hid (((bl s).take k).all digB10 = true) ∧ w = wr) (fun vi _ => s.size - (intOf vi).toNat)
      case atStart => exact ⟨0, rfl, Nat.zero_le _, Lib.hid rfl, rfl⟩
      case round =>
        obtain ⟨k, rfl, hk, HA, rfl⟩ := hrel
        by_cases hlt : k < s.size
        · have HG := Lib.hid (bl_get s k hlt)
          by_cases h1 : 48 ≤ (s[k].toNat : Int)
          · by_cases h2 : (s[k].toNat : Int) ≤ 57
            · have HA2 := Lib.hid (all_snocD s k hlt HA.out (dig_yes _ h1 h2))
              clear HA
              go_wp2_with fail
              go_roundw
              case rel => exact ⟨k + 1, by go_num, hlt, HA2, trivial⟩
              case measure => simp [intOf]; omega
            · have HF := Lib.hid (show numericF (bl s) = false by rw [HR.out]; exact all_noD _ _ s[k] k HG.out (dig_no _ (fun h => h2 h.2)))
              go_wp2_with fail
              go_ret
              exact ⟨ret_bool HF.out.symm, rfl⟩
          · have HF := Lib.hid (show numericF (bl s) = false by rw [HR.out]; exact all_noD _ _ s[k] k HG.out (dig_no _ (fun h => h1 h.1)))
            go_wp2_with fail
            go_ret
            exact ⟨ret_bool HF.out.symm, rfl⟩
        · have HF := Lib.hid (show numericF (bl s) = true by
            rw [HR.out]
            have := HA.out
            rw [List.take_of_length_le (by rw [bl_length]; omega)] at this
            exact this)
          go_wp2_with fail
          go_ret
          exact ⟨ret_bool HF.out.symm, rfl⟩

/-! ## decimal -/
theorem run_one_tx (w : World) (c : UInt8) (z : Int) (hz : z = (c.toNat : Int)) : (convert 47 9 (.slice (some ⟨w.heap.size, 0, none⟩) 1 1)).run Tryz.prog (w.alloc (.cells #[.int .u8 z] 5)) = .ok (.string ⟨#[c]⟩) (w.alloc (.cells #[.int .u8 z] 5)) := by
  subst hz
  exact run_text _ (some ⟨w.heap.size, 0, none⟩) [c] 1 1 rfl ((Is.made w 5 (vals [c])).src (fun _ => True) trivial)
theorem dg_nat (d : Nat) (h : d < 10) : ((48 : Int) + (d : Int)) = ((dg d).toNat : Int) := by
  have : (dg d).toNat = 48 + d := by
    unfold dg
    rw [if_pos h, UInt8.toNat_ofNat']
    omega
  omega
theorem mk_cons (c : UInt8) (l : List UInt8) : (⟨#[c]⟩ : ByteArray) ++ (⟨l.toArray⟩ : ByteArray) = ⟨(c :: l).toArray⟩ := by
  rw [show (⟨#[c]⟩ : ByteArray) = ⟨[c].toArray⟩ from rfl, mk_append]
  rfl

/-! ## labels -/
/-- What labels tells: a list of the call's own. -/
def LabGot (ls : List (List UInt8)) (w : World) (e : Ending) (w' : World) : Prop :=
  ∃ v o, e = .returned v ∧ OwnS w' v o ls ∧ (∀ b, o = some b → w.heap.size ≤ b) ∧ Below w.heap.size w w'
theorem piece_more (s : ByteArray) (f k : Nat) (h : k < s.size) (hf : f ≤ k) (hn : 46 ∉ piece s f k) (hc : s[k] ≠ 46) : 46 ∉ piece s f (k + 1) := by
  rw [piece_last s f (k + 1) (by omega) (by omega)]
  simp only [Nat.add_sub_cancel, List.mem_append, List.mem_singleton, not_or]
  exact ⟨hn, fun e => hc e.symm⟩
theorem split_dot (s : ByteArray) (f k : Nat) (h : k < s.size) (hf : f ≤ k) (hn : 46 ∉ piece s f k) (hc : s[k] = 46) : splitF 46 ((bl s).drop f) = piece s f k :: splitF 46 ((bl s).drop (k + 1)) := by
  have e : (bl s).drop f = piece s f k ++ 46 :: (bl s).drop (k + 1) := by
    rw [← hc, ← bl_drop s k h]
    unfold piece
    have h1 : (bl s).drop k = ((bl s).drop f).drop (k - f) := by rw [List.drop_drop, show f + (k - f) = k by omega]
    rw [h1, List.take_append_drop]
  rw [e, splitF_hit 46 _ _ hn]
theorem split_end (s : ByteArray) (f : Nat) (hn : 46 ∉ piece s f s.size) : splitF 46 ((bl s).drop f) = [piece s f s.size] := by
  rw [piece_back] at hn ⊢
  exact splitF_none 46 _ hn
set_option maxHeartbeats 4000000 in
set_option maxRecDepth 100000 in
theorem rlabels_any (s : ByteArray) (w : World) (hs : s.size ≤ 4000000) : Calls Tryz.prog 86 #[.string s] w (LabGot (splitF 46 (bl s)) w) := by
  have HR0 := Lib.hid (show [] ++ splitF 46 ((bl s).drop 0) = splitF 46 (bl s) from rfl)
  generalize splitF 46 (bl s) = r at *
  go_enter Tryz.func86, Tryz.ntmps86
  go_wp2_with fail
  go_loopw [3, 4, 5] (fun v vf vi wr => ∃ (k f : Nat) (o : Option Nat) (ls : List (List UInt8)), vi = .int .i64 (k : Int) ∧ k ≤ s.size + 1 ∧ vf = .int .i64 (f : Int) ∧ f ≤ k ∧ ls.length ≤ k ∧ Hid (OwnS wr v o ls) ∧ Hid (∀ b, o = some b → w.heap.size ≤ b) ∧ Hid (Below w.heap.size w wr) ∧
      Hid (k ≤ s.size → 46 ∉ piece s f k ∧ ls ++ splitF 46 ((bl s).drop f) = r) ∧ Hid (¬ k ≤ s.size → ls = r)) (fun _ _ vi _ => s.size + 1 - (intOf vi).toNat)
  case atStart => exact ⟨0, 0, none, [], rfl, Nat.zero_le _, rfl, Nat.le_refl _, by simp, Lib.hid (OwnS.nil _), Lib.hid (fun _ h => by cases h), Lib.hid (Below.refl _ _), Lib.hid (fun _ => ⟨by simp [piece], HR0.out⟩), Lib.hid (fun h => absurd (Nat.zero_le _) h)⟩
  case round =>
    obtain ⟨k, f, o, ls, rfl, hk, rfl, hfk, hll, HO, HOB, HB, HU, HE⟩ := hrel
    by_cases hle : k ≤ s.size
    · have hle' : (k : Int) ≤ (s.size : Int) := by omega
      obtain ⟨hnp, hu⟩ := HU.out hle
      obtain ⟨v', w', o', hrun, own', t', ho'⟩ := run_push_str wr u3 o ls (piece s f k) HO.out (by omega)
      have HRU := Lib.hid hrun
      have HXT := Lib.hid (bl_extract s f k)
      have HOW := Lib.hid own'
      have HOB2 := Lib.hid (show ∀ b, o' = some b → w.heap.size ≤ b from fun b hb => by
        rcases ho' b hb with h | h
        · exact HOB.out b h
        · have := HB.out.size; omega)
      have HB2 := Lib.hid (show Below w.heap.size w w' from by
        have hb := HB.out
        exact hb.trans ⟨t'.os, t'.tape, t'.output, t'.size, fun b hb' => t'.block b (by have := hb.size; omega) (fun hS => by have := HOB.out b hS; omega)⟩)
      have c1 : (0 : Int) ≤ (f : Int) := by omega
      have c2 : (f : Int) ≤ (k : Int) := by omega
      have c3 : (k : Int) ≤ (s.size : Int) := hle'
      have hlen : (ls ++ [piece s f k]).length ≤ k + 1 := by simp; omega
      by_cases hlt : k < s.size
      · have e3 : ((k : Int) == (s.size : Int)) = false := beq_eq_false_iff_ne.2 (by omega)
        have hbi := byte_int s[k] 46
        rw [show ((46 : UInt8).toNat : Int) = 46 from rfl] at hbi
        by_cases hdot : s[k] = 46
        · rw [show (s[k] == 46) = true from beq_iff_eq.2 hdot] at hbi
          have HU2 := Lib.hid (show k + 1 ≤ s.size → 46 ∉ piece s (k + 1) (k + 1) ∧ (ls ++ [piece s f k]) ++ splitF 46 ((bl s).drop (k + 1)) = r from fun _ => ⟨by rw [piece_self]; simp, by rw [← hu, split_dot s f k hlt hfk hnp hdot]; simp⟩)
          have HE2 := Lib.hid (show ¬ k + 1 ≤ s.size → ls ++ [piece s f k] = r from fun h => absurd hlt (by omega))
          clear hrun own' t' ho' hnp hu hdot HU HE HO HOB
          go_wp2_with (at_builtin; rw [HXT.out]; refine append_by rfl (.tmp 22) (.tmp 27) 49 rfl _ _ v' w' rfl rfl HRU.out ?_)
          go_roundw
          case rel => exact ⟨k + 1, k + 1, o', ls ++ [piece s f k], by go_num, by omega, by go_num, Nat.le_refl _, hlen, HOW, HOB2, HB2, HU2, HE2⟩
          case measure => simp [intOf]; omega
        · rw [show (s[k] == 46) = false from beq_eq_false_iff_ne.2 hdot] at hbi
          have HU2 := Lib.hid (show k + 1 ≤ s.size → 46 ∉ piece s f (k + 1) ∧ ls ++ splitF 46 ((bl s).drop f) = r from fun _ => ⟨piece_more s f k hlt hfk hnp hdot, hu⟩)
          have HE2 := Lib.hid (show ¬ k + 1 ≤ s.size → ls = r from fun h => absurd hlt (by omega))
          clear hrun own' t' ho' hnp hu hdot HU HE HRU HOW HOB2 HB2
          go_wp2_with fail
          go_roundw
          case rel => exact ⟨k + 1, f, o, ls, by go_num, by omega, rfl, by omega, by omega, HO, HOB, HB, HU2, HE2⟩
          case measure => simp [intOf]; omega
      · have e3 : ((k : Int) == (s.size : Int)) = true := beq_iff_eq.2 (by omega)
        obtain rfl : k = s.size := by omega
        have HU2 := Lib.hid (show s.size + 1 ≤ s.size → 46 ∉ piece s (s.size + 1) (s.size + 1) ∧ (ls ++ [piece s f s.size]) ++ splitF 46 ((bl s).drop (s.size + 1)) = r from fun h => absurd h (by omega))
        have HE2 := Lib.hid (show ¬ s.size + 1 ≤ s.size → ls ++ [piece s f s.size] = r from fun _ => by rw [← hu, split_end s f hnp])
        clear hrun own' t' ho' hnp hu HU HE HO HOB
        go_wp2_with (at_builtin; rw [HXT.out]; refine append_by rfl (.tmp 22) (.tmp 27) 49 rfl _ _ v' w' rfl rfl HRU.out ?_)
        go_roundw
        case rel => exact ⟨s.size + 1, s.size + 1, o', ls ++ [piece s f s.size], by go_num, by omega, by go_num, Nat.le_refl _, hlen, HOW, HOB2, HB2, HU2, HE2⟩
        case measure => simp [intOf]
    · have hle' : ¬ (k : Int) ≤ (s.size : Int) := by omega
      have he := HE.out hle
      go_wp2_with fail
      go_ret
      exact ⟨_, o, rfl, by rw [← he]; exact HO.out, HOB.out, HB.out⟩
end Go.Proofs.YtopanahgeeolbaaGreatDoor.Uri
