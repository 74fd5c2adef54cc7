/-
  The law UriOne.
  Conditions: those that each theorem names; Go's table of powers of ten is as its text lays it.
-/
import Derived.Test.YthkcniimnaephaaDoorYM
import Derived.Deep.RegionHeld
import Derived.Deep.RegionHeld3
namespace Go.Proofs.YthkcniimnaephaaDoor.Uri
open Go.RowKit

set_option maxHeartbeats 4000000 in
theorem plain_any (s : ByteArray) (w : World) (hs : s.size ≤ 281474976710656) : Calls Tryd.prog 19 #[.string s] w fun e w' => e = .returned (.bool (plainF (bl s))) ∧ w = w' := by
  go_enter Tryd.func19, Tryd.ntmps19
  go_wp2_with fail
  go_loopw [3] (fun vi wr => ∃ k : Nat, vi = .int .i64 (k : Int) ∧ k ≤ s.size ∧ Hid (((bl s).take k).all plainB = true) ∧ w = wr) (fun vi _ => s.size - (intOf vi).toNat)
  case atStart => exact ⟨0, rfl, Nat.zero_le _, Lib.hid rfl, rfl⟩
  case round =>
    obtain ⟨k, rfl, hk, HA, rfl⟩ := hrel
    by_cases hlt : k < s.size
    · have HTK := Lib.hid (bl_take s k hlt)
      have HG := Lib.hid (bl_get s k hlt)
      have hb : ∀ c : UInt8, plainB c = ((c != 58) && ((c != 47) && (c != 63))) := fun _ => rfl
      have HC := Lib.hid (hb s[k])
      have hn : ∀ (c d : UInt8), ((c.toNat : Int) == (d.toNat : Int)) = (c == d) := fun c d => by
        rw [Bool.eq_iff_iff, beq_iff_eq, beq_iff_eq]
        constructor
        · intro h; exact UInt8.toNat_inj.1 (by omega)
        · rintro rfl; rfl
      have q1 := hn s[k] 58
      have q2 := hn s[k] 47
      have q3 := hn s[k] 63
      rw [show ((58 : UInt8).toNat : Int) = 58 from rfl] at q1
      rw [show ((47 : UInt8).toNat : Int) = 47 from rfl] at q2
      rw [show ((63 : UInt8).toNat : Int) = 63 from rfl] at q3
      clear hb hn
      cases h1 : (s[k] == 58) with
      | true =>
        rw [h1] at q1
        have HN := Lib.hid (show plainF (bl s) = false from all_no (bl s) plainB s[k] k HG.out (by rw [HC.out, bne, h1]; rfl))
        clear HTK HG HC h1 q2 q3
        go_wp2_with fail
        go_ret
        exact ⟨ret_bool HN.out.symm, rfl⟩
      | false =>
        cases h2 : (s[k] == 47) with
        | true =>
          rw [h1] at q1
          rw [h2] at q2
          have HN := Lib.hid (show plainF (bl s) = false from all_no (bl s) plainB s[k] k HG.out (by rw [HC.out, bne, h1, bne, h2]; rfl))
          clear HTK HG HC h1 h2 q3
          go_wp2_with fail
          go_ret
          exact ⟨ret_bool HN.out.symm, rfl⟩
        | false =>
          cases h3 : (s[k] == 63) with
          | true =>
            rw [h1] at q1
            rw [h2] at q2
            rw [h3] at q3
            have HN := Lib.hid (show plainF (bl s) = false from all_no (bl s) plainB s[k] k HG.out (by rw [HC.out, bne, h1, bne, h2, bne, h3]; rfl))
            clear HTK HG HC h1 h2 h3
            go_wp2_with fail
            go_ret
            exact ⟨ret_bool HN.out.symm, rfl⟩
          | false =>
            rw [h1] at q1
            rw [h2] at q2
            rw [h3] at q3
            have HN := Lib.hid (show ((bl s).take (k + 1)).all plainB = true by rw [HTK.out, List.all_append, HA.out, List.all_cons, HC.out, bne, h1, bne, h2, bne, h3]; rfl)
            clear HTK HG HC h1 h2 h3
            go_wp2_with fail
            go_roundw
            case rel => exact ⟨k + 1, by go_num, hlt, HN, trivial⟩
            case measure => simp [intOf]; omega
    · have HF := Lib.hid (show plainF (bl s) = true by
        have h1 := HA.out
        rw [List.take_of_length_le (by rw [bl_length]; omega)] at h1
        exact h1)
      go_wp2_with fail
      go_ret
      exact ⟨ret_bool HF.out.symm, rfl⟩

set_option maxHeartbeats 16000000 in
set_option maxRecDepth 100000 in
theorem one_none (s : ByteArray) (n : Nat) (w : World) (hs : s.size ≤ 140737488351232) (hp : PowTab w) (hnm : namedF (bl s) = false) :
    Calls Tryd.prog 6 #[.string s, .int .u8 (n : Int)] w fun e w' => e = .returned (.bool true) ∧ Below w.heap.size w w' := by
  have HP := Lib.hid hp
  have B0 := Lib.hid (Below.refl w.heap.size w)
  have CN := Lib.hid (named_at s false hnm w hp)
  have hE1 : bl ((⟨#[104, 116, 116, 112, 58, 47, 47]⟩ : ByteArray) ++ s ++ (⟨#[47]⟩ : ByteArray)) = httpL ++ bl s ++ [47] := by simp [bl, httpL]
  have hE2 : bl (s ++ (⟨#[58, 49]⟩ : ByteArray)) = bl s ++ [58, 49] := by simp [bl]
  have z1 : ¬ 9223372036854775807 < 7 + s.size := by omega
  have z2 : ¬ 9223372036854775807 < 7 + s.size + 1 := by omega
  have z3 : ¬ 9223372036854775807 < s.size + 2 := by omega
  have sE1 : ((⟨#[104, 116, 116, 112, 58, 47, 47]⟩ : ByteArray) ++ s ++ (⟨#[47]⟩ : ByteArray)).size ≤ 281474976710000 := by rw [← bl_length, hE1]; simp [httpL, bl_length]; omega
  have sE2 : (s ++ (⟨#[58, 49]⟩ : ByteArray)).size ≤ 281474976710000 := by rw [← bl_length, hE2]; simp [bl_length]; omega
  have CP := fun (X : World) (hX : PowTab X) => parse_any ((⟨#[104, 116, 116, 112, 58, 47, 47]⟩ : ByteArray) ++ s ++ (⟨#[47]⟩ : ByteArray)) X sE1 hX
  unfold UrlGot at CP
  rw [hE1] at CP
  have CA := fun (X : World) (hX : PowTab X) => authority_any (s ++ (⟨#[58, 49]⟩ : ByteArray)) X (by omega) hX
  unfold AuGot at CA
  rw [hE2] at CA
  obtain ⟨LB, hLB⟩ : ∃ LB : ByteArray, bl LB = lowF (bl s) := ⟨⟨(lowF (bl s)).toArray⟩, bl_mk _⟩
  have hLs : LB.size ≤ 281474976710656 := by rw [← bl_length, hLB, lowF_length, bl_length]; omega
  have CL := fun X : World => ty_lower s X
  unfold Text at CL
  rw [← hLB, mk_bl] at CL
  have CNL := Lib.hid (fun (X : World) (hX : PowTab X) => named_any LB X hX)
  have CPL := Lib.hid (fun (X : World) => plain_any LB X hLs)
  have H1 := Lib.hid (one_parse (bl s))
  have H2 := Lib.hid (one_auth (bl s))
  rw [← hLB] at H1 H2
  have CL1 := Lib.hid CL
  have CP1 := Lib.hid CP
  have CA1 := Lib.hid CA
  clear hp hnm hE1 hE2 sE1 sE2 CP CA CL hLB hLs hs
  generalize parseF (httpL ++ bl s ++ [47]) = r1 at *
  generalize authorityF (bl s ++ [58, 49]) = r2 at *
  generalize namedF (bl LB) = b1 at *
  generalize plainF (bl LB) = b2 at *
  cases r1 with
  | none =>
    cases r2 with
    | none =>
      simp only [urlT] at CP1
      simp only [auV] at CA1
      clear H1 H2
      go_enter Tryd.func6, Tryd.ntmps6
      go_wp2_with fail
      refine (CN.out).mono ?_
      rintro e w1 ⟨rfl, b⟩
      have B1 := Lib.hid (B0.out.trans (b.mono B0.out.size))
      clear b B0
      go_wp2_with fail
      refine (CP1.out _ (HP.out.below B1.out)).mono ?_
      rintro e w2 ⟨rfl, b⟩
      have B2 := Lib.hid (B1.out.trans (b.mono B1.out.size))
      clear b B1
      have B3 := Lib.hid (B2.out.alloc B2.out.size (.cells #[.string ⟨#[]⟩, .int .i64 0, .string ⟨#[]⟩] 23))
      have Ix3 := Lib.hid (Is.made w2 23 [.string ⟨#[]⟩, .int .i64 0, .string ⟨#[]⟩])
      clear B2
      go_upto_region 3 with fail
      generalize w2.alloc _ = w3 at *
      clear Ix3
      go_wp2_with fail
      refine (CA1.out _ (HP.out.below B3.out)).mono ?_
      rintro e w4 ⟨rfl, b⟩
      have B4 := Lib.hid (B3.out.trans (b.mono B3.out.size))
      clear b B3
      go_wp2_with fail
      refine (CL1.out _).mono ?_
      rintro e w5 ⟨rfl, b⟩
      have B5 := Lib.hid (B4.out.trans (b.mono B4.out.size))
      clear b B4
      go_wp2_with fail
      refine (wakes_any _ (HP.out.below B5.out)).mono ?_
      rintro e w6 ⟨rfl, b⟩
      have B6 := Lib.hid (B5.out.trans (b.mono B5.out.size))
      clear b B5
      go_wp2_with fail
      go_ret
      exact ⟨rfl, B6.out⟩
    | some y =>
      obtain ⟨h2, p2⟩ := y
      have hb1 : b1 = true := H2.out rfl
      subst hb1
      simp only [urlT] at CP1
      simp only [auV] at CA1
      clear H1 H2
      go_enter Tryd.func6, Tryd.ntmps6
      go_wp2_with fail
      refine (CN.out).mono ?_
      rintro e w1 ⟨rfl, b⟩
      have B1 := Lib.hid (B0.out.trans (b.mono B0.out.size))
      clear b B0
      go_wp2_with fail
      refine (CP1.out _ (HP.out.below B1.out)).mono ?_
      rintro e w2 ⟨rfl, b⟩
      have B2 := Lib.hid (B1.out.trans (b.mono B1.out.size))
      clear b B1
      have B3 := Lib.hid (B2.out.alloc B2.out.size (.cells #[.string ⟨#[]⟩, .int .i64 0, .string ⟨#[]⟩] 23))
      have Ix3 := Lib.hid (Is.made w2 23 [.string ⟨#[]⟩, .int .i64 0, .string ⟨#[]⟩])
      clear B2
      go_upto_region 3 with fail
      generalize w2.alloc _ = w3 at *
      clear Ix3
      go_wp2_with fail
      refine (CA1.out _ (HP.out.below B3.out)).mono ?_
      rintro e w4 ⟨rfl, b⟩
      have B4 := Lib.hid (B3.out.trans (b.mono B3.out.size))
      clear b B3
      go_wp2_with fail
      refine (CL1.out _).mono ?_
      rintro e w5 ⟨rfl, b⟩
      have B5 := Lib.hid (B4.out.trans (b.mono B4.out.size))
      clear b B4
      go_wp2_with fail
      refine (CNL.out _ (HP.out.below B5.out)).mono ?_
      rintro e w6 ⟨rfl, b⟩
      have B6 := Lib.hid (B5.out.trans (b.mono B5.out.size))
      clear b B5
      go_wp2_with fail
      refine (wakes_any _ (HP.out.below B6.out)).mono ?_
      rintro e w7 ⟨rfl, b⟩
      have B7 := Lib.hid (B6.out.trans (b.mono B6.out.size))
      clear b B6
      go_wp2_with fail
      go_ret
      exact ⟨rfl, B7.out⟩
  | some x =>
    obtain ⟨h', p', q'⟩ := x
    cases b1 with
    | true =>
      cases r2 with
      | none =>
        simp only [urlT] at CP1
        simp only [auV] at CA1
        clear H1 H2
        go_enter Tryd.func6, Tryd.ntmps6
        go_wp2_with fail
        refine (CN.out).mono ?_
        rintro e w1 ⟨rfl, b⟩
        have B1 := Lib.hid (B0.out.trans (b.mono B0.out.size))
        clear b B0
        go_wp2_with fail
        refine (CP1.out _ (HP.out.below B1.out)).mono ?_
        rintro e w2 ⟨rfl, b⟩
        have B2 := Lib.hid (B1.out.trans (b.mono B1.out.size))
        clear b B1
        have B3 := Lib.hid (B2.out.alloc B2.out.size (.cells #[.string ⟨h'.toArray⟩, .int .i64 (p' : Int), .string ⟨q'.toArray⟩] 23))
        have Ix3 := Lib.hid (Is.made w2 23 [.string ⟨h'.toArray⟩, .int .i64 (p' : Int), .string ⟨q'.toArray⟩])
        clear B2
        go_upto_region 3 with fail
        generalize w2.alloc _ = w3 at *
        clear Ix3
        go_wp2_with fail
        refine (CA1.out _ (HP.out.below B3.out)).mono ?_
        rintro e w4 ⟨rfl, b⟩
        have B4 := Lib.hid (B3.out.trans (b.mono B3.out.size))
        clear b B3
        go_wp2_with fail
        refine (CL1.out _).mono ?_
        rintro e w5 ⟨rfl, b⟩
        have B5 := Lib.hid (B4.out.trans (b.mono B4.out.size))
        clear b B4
        go_wp2_with fail
        refine (CNL.out _ (HP.out.below B5.out)).mono ?_
        rintro e w6 ⟨rfl, b⟩
        have B6 := Lib.hid (B5.out.trans (b.mono B5.out.size))
        clear b B5
        go_wp2_with fail
        refine (wakes_any _ (HP.out.below B6.out)).mono ?_
        rintro e w7 ⟨rfl, b⟩
        have B7 := Lib.hid (B6.out.trans (b.mono B6.out.size))
        clear b B6
        go_wp2_with fail
        go_ret
        exact ⟨rfl, B7.out⟩
      | some y =>
        obtain ⟨h2, p2⟩ := y
        simp only [urlT] at CP1
        simp only [auV] at CA1
        clear H1 H2
        go_enter Tryd.func6, Tryd.ntmps6
        go_wp2_with fail
        refine (CN.out).mono ?_
        rintro e w1 ⟨rfl, b⟩
        have B1 := Lib.hid (B0.out.trans (b.mono B0.out.size))
        clear b B0
        go_wp2_with fail
        refine (CP1.out _ (HP.out.below B1.out)).mono ?_
        rintro e w2 ⟨rfl, b⟩
        have B2 := Lib.hid (B1.out.trans (b.mono B1.out.size))
        clear b B1
        have B3 := Lib.hid (B2.out.alloc B2.out.size (.cells #[.string ⟨h'.toArray⟩, .int .i64 (p' : Int), .string ⟨q'.toArray⟩] 23))
        have Ix3 := Lib.hid (Is.made w2 23 [.string ⟨h'.toArray⟩, .int .i64 (p' : Int), .string ⟨q'.toArray⟩])
        clear B2
        go_upto_region 3 with fail
        generalize w2.alloc _ = w3 at *
        clear Ix3
        go_wp2_with fail
        refine (CA1.out _ (HP.out.below B3.out)).mono ?_
        rintro e w4 ⟨rfl, b⟩
        have B4 := Lib.hid (B3.out.trans (b.mono B3.out.size))
        clear b B3
        go_wp2_with fail
        refine (CL1.out _).mono ?_
        rintro e w5 ⟨rfl, b⟩
        have B5 := Lib.hid (B4.out.trans (b.mono B4.out.size))
        clear b B4
        go_wp2_with fail
        refine (CNL.out _ (HP.out.below B5.out)).mono ?_
        rintro e w6 ⟨rfl, b⟩
        have B6 := Lib.hid (B5.out.trans (b.mono B5.out.size))
        clear b B5
        go_wp2_with fail
        refine (CNL.out _ (HP.out.below B6.out)).mono ?_
        rintro e w7 ⟨rfl, b⟩
        have B7 := Lib.hid (B6.out.trans (b.mono B6.out.size))
        clear b B6
        go_wp2_with fail
        refine (wakes_any _ (HP.out.below B7.out)).mono ?_
        rintro e w8 ⟨rfl, b⟩
        have B8 := Lib.hid (B7.out.trans (b.mono B7.out.size))
        clear b B7
        go_wp2_with fail
        go_ret
        exact ⟨rfl, B8.out⟩
    | false =>
      cases r2 with
      | some y => exact absurd (H2.out rfl) Bool.false_ne_true
      | none =>
        have hb2 : b2 = false := by
          cases b2 with
          | false => rfl
          | true => exact absurd (H1.out rfl rfl) Bool.false_ne_true
        subst hb2
        simp only [urlT] at CP1
        simp only [auV] at CA1
        clear H1 H2
        go_enter Tryd.func6, Tryd.ntmps6
        go_wp2_with fail
        refine (CN.out).mono ?_
        rintro e w1 ⟨rfl, b⟩
        have B1 := Lib.hid (B0.out.trans (b.mono B0.out.size))
        clear b B0
        go_wp2_with fail
        refine (CP1.out _ (HP.out.below B1.out)).mono ?_
        rintro e w2 ⟨rfl, b⟩
        have B2 := Lib.hid (B1.out.trans (b.mono B1.out.size))
        clear b B1
        have B3 := Lib.hid (B2.out.alloc B2.out.size (.cells #[.string ⟨h'.toArray⟩, .int .i64 (p' : Int), .string ⟨q'.toArray⟩] 23))
        have Ix3 := Lib.hid (Is.made w2 23 [.string ⟨h'.toArray⟩, .int .i64 (p' : Int), .string ⟨q'.toArray⟩])
        clear B2
        go_upto_region 3 with fail
        generalize w2.alloc _ = w3 at *
        clear Ix3
        go_wp2_with fail
        refine (CA1.out _ (HP.out.below B3.out)).mono ?_
        rintro e w4 ⟨rfl, b⟩
        have B4 := Lib.hid (B3.out.trans (b.mono B3.out.size))
        clear b B3
        go_wp2_with fail
        refine (CL1.out _).mono ?_
        rintro e w5 ⟨rfl, b⟩
        have B5 := Lib.hid (B4.out.trans (b.mono B4.out.size))
        clear b B4
        go_wp2_with fail
        refine (CNL.out _ (HP.out.below B5.out)).mono ?_
        rintro e w6 ⟨rfl, b⟩
        have B6 := Lib.hid (B5.out.trans (b.mono B5.out.size))
        clear b B5
        go_wp2_with fail
        refine (CPL.out _).mono ?_
        rintro e v ⟨rfl, rfl⟩
        go_wp2_with fail
        refine (wakes_any _ (HP.out.below B6.out)).mono ?_
        rintro e w7 ⟨rfl, b⟩
        have B7 := Lib.hid (B6.out.trans (b.mono B6.out.size))
        clear b B6
        go_wp2_with fail
        go_ret
        exact ⟨rfl, B7.out⟩

theorem count_snoc (s : ByteArray) (k : Nat) (h : k < s.size) : ((bl s).take (k + 1)).count 46 = ((bl s).take k).count 46 + (if s[k] = 46 then 1 else 0) := by
  rw [bl_take s k h, List.count_append, List.count_singleton]
  simp [beq_iff_eq]
def ddB (c : UInt8) : Bool := c == 46 || digB10 c
theorem dd_snoc (s : ByteArray) (k : Nat) (h : k < s.size) : ((bl s).take (k + 1)).all ddB = (((bl s).take k).all ddB && ddB s[k]) := by
  rw [bl_take s k h, List.all_append]
  simp
theorem dd_dot (c : UInt8) (h : c = 46) : ddB c = true := by subst h; decide
theorem dd_dig (c : UInt8) (_h : c ≠ 46) (h1 : 48 ≤ (c.toNat : Int)) (h2 : (c.toNat : Int) ≤ 57) : ddB c = true := by
  unfold ddB digB10
  rw [decide_eq_true (by omega), decide_eq_true (by omega)]
  simp
theorem dd_no (c : UInt8) (h : c ≠ 46) (h1 : ¬ (48 ≤ (c.toNat : Int) ∧ (c.toNat : Int) ≤ 57)) : ddB c = false := by
  unfold ddB digB10
  have h0 : (c == 46) = false := by simpa using h
  rw [h0, Bool.false_or, Bool.and_eq_false_iff]
  by_cases h2 : 48 ≤ c.toNat
  · right; simp; omega
  · left; simp; omega
theorem mid_dot (s : ByteArray) (k : Nat) (h : k < s.size) (hd : s[k] = 46) : namedF (bl (s.extract 0 k ++ (⟨#[46]⟩ : ByteArray) ++ s.extract k s.size)) = false := by
  have e : bl (s.extract 0 k ++ (⟨#[46]⟩ : ByteArray) ++ s.extract k s.size) = (bl s).take k ++ 46 :: 46 :: (bl s).drop (k + 1) := by
    have h1 : bl (s.extract 0 k ++ (⟨#[46]⟩ : ByteArray) ++ s.extract k s.size) = bl (s.extract 0 k) ++ [46] ++ bl (s.extract k s.size) := by simp [bl]
    rw [h1, extract_bl, extract_bl, piece_front, piece_back, bl_drop s k h, hd]
    simp
  rw [e]
  exact one_mid _ _
theorem up_one (s : ByteArray) (k : Nat) (h : k < s.size) (hs : smallB s[k] = true) : namedF (bl (s.extract 0 k ++ (⟨#[s[k] - 32]⟩ : ByteArray) ++ s.extract (k + 1) s.size)) = false := by
  have e : bl (s.extract 0 k ++ (⟨#[s[k] - 32]⟩ : ByteArray) ++ s.extract (k + 1) s.size) = (bl s).take k ++ (s[k] - 32) :: (bl s).drop (k + 1) := by
    have h1 : bl (s.extract 0 k ++ (⟨#[s[k] - 32]⟩ : ByteArray) ++ s.extract (k + 1) s.size) = bl (s.extract 0 k) ++ [s[k] - 32] ++ bl (s.extract (k + 1) s.size) := by simp [bl]
    rw [h1, extract_bl, extract_bl, piece_front, piece_back]
    simp
  rw [e]
  exact one_up _ _ _ hs
theorem small_sub (c : UInt8) (h1 : 97 ≤ (c.toNat : Int)) (h2 : (c.toNat : Int) ≤ 122) : smallB c = true ∧ (c.toNat : Int) - 32 = ((c - 32).toNat : Int) := by
  constructor
  · unfold smallB
    rw [decide_eq_true (by omega), decide_eq_true (by omega)]
    rfl
  · have := byte_all (fun c => !(decide (97 ≤ c.toNat) && decide (c.toNat ≤ 122)) || (decide (c.toNat - 32 = (c - 32).toNat))) (by decide +kernel) c
    rw [decide_eq_true (by omega : 97 ≤ c.toNat), decide_eq_true (by omega : c.toNat ≤ 122)] at this
    have := of_decide_eq_true (by simpa using this : decide (c.toNat - 32 = (c - 32).toNat) = true)
    omega

theorem run_one_text (w : World) (c : UInt8) (z : Int) (hz : z = (c.toNat : Int)) : (convert 37 9 (.slice (some ⟨w.heap.size, 0, none⟩) 1 1)).run Tryd.prog ((w.alloc (.cells #[.int .u8 z] 5)).drew) = .ok (.string ⟨#[c]⟩) ((w.alloc (.cells #[.int .u8 z] 5)).drew) := by
  subst hz
  exact run_text _ (some ⟨w.heap.size, 0, none⟩) [c] 1 1 rfl ((Is.made w 5 (vals [c])).drew.src (fun _ => True) trivial)

set_option maxHeartbeats 16000000 in
set_option maxRecDepth 100000 in
theorem one_some (s : ByteArray) (n : Nat) (w : World) (hp : PowTab w) (hnm : namedF (bl s) = true) (hn : n ≤ 255) :
    Calls Tryd.prog 6 #[.string s, .int .u8 (n : Int)] w fun e w' => e = .returned (.bool true) ∧ Below w.heap.size w w' := by
  have HP := Lib.hid hp
  have B0 := Lib.hid (Below.refl w.heap.size w)
  have HNM := Lib.hid hnm
  have hs64 : s.size ≤ 64 := by rw [← bl_length]; exact (named_parts hnm).1
  have hs1 : 0 < s.size := by
    rcases Nat.lt_or_ge 0 s.size with h | h
    · exact h
    · exact absurd (List.eq_nil_of_length_eq_zero (by rw [bl_length]; omega)) (named_ne hnm)
  have CN := Lib.hid (named_at s true hnm w hp)
  have C1 := Lib.hid (fun (X : World) (hX : PowTab X) => named_at (s ++ (⟨#[46]⟩ : ByteArray)) false (by rw [show bl (s ++ (⟨#[46]⟩ : ByteArray)) = bl s ++ [46] from by simp [bl]]; exact one_back _) X hX)
  have C2 := Lib.hid (fun (X : World) (hX : PowTab X) => named_at ((⟨#[46]⟩ : ByteArray) ++ s) false (by rw [show bl ((⟨#[46]⟩ : ByteArray) ++ s) = 46 :: bl s from by simp [bl]]; exact one_front _) X hX)
  have C3 := Lib.hid (fun (X : World) (hX : PowTab X) => named_at ⟨#[]⟩ false (by decide) X hX)
  have CD := Lib.hid (fun (k : Nat) (h : k < s.size) (hd : s[k] = 46) (X : World) (hX : PowTab X) => named_at (s.extract 0 k ++ (⟨#[46]⟩ : ByteArray) ++ s.extract k s.size) false (mid_dot s k h hd) X hX)
  have CU := Lib.hid (fun (k : Nat) (h : k < s.size) (hd : smallB s[k] = true) (X : World) (hX : PowTab X) => named_at (s.extract 0 k ++ (⟨#[s[k] - 32]⟩ : ByteArray) ++ s.extract (k + 1) s.size) false (up_one s k h hd) X hX)
  have z0 : ¬ 9223372036854775807 < s.size + 1 := by omega
  have z00 : ¬ 9223372036854775807 < 1 + s.size := by omega
  have z02 : ¬ 9223372036854775807 < 2 + s.size := by omega
  have e64 : ¬ (64 : Int) < (s.size : Int) := by omega
  clear hp hnm
  go_enter Tryd.func6, Tryd.ntmps6
  go_wp2_with fail
  refine (CN.out).mono ?_
  rintro e w1 ⟨rfl, b⟩
  have B1 := Lib.hid (B0.out.trans (b.mono B0.out.size))
  clear b B0
  go_wp2_with fail
  refine (C1.out _ (HP.out.below B1.out)).mono ?_
  rintro e w2 ⟨rfl, b⟩
  have B2 := Lib.hid (B1.out.trans (b.mono B1.out.size))
  clear b B1
  go_wp2_with fail
  refine (C2.out _ (HP.out.below B2.out)).mono ?_
  rintro e w3 ⟨rfl, b⟩
  have B3 := Lib.hid (B2.out.trans (b.mono B2.out.size))
  clear b B2
  go_wp2_with fail
  refine (C3.out _ (HP.out.below B3.out)).mono ?_
  rintro e w4 ⟨rfl, b⟩
  have B4 := Lib.hid (B3.out.trans (b.mono B3.out.size))
  clear b B3
  go_wp2_with fail
  clear C1 C2 C3
  go_loopw [11, 12, 13] (fun vd vq vi wr => ∃ (k : Nat) (q : Bool) (d : Nat), vi = .int .i64 (k : Int) ∧ k ≤ s.size ∧ vd = .int .i64 (d : Int) ∧ vq = .bool q ∧ d ≤ k ∧ Hid (d = ((bl s).take k).count 46) ∧ Hid (q = ((bl s).take k).all ddB) ∧ Hid (Below w.heap.size w wr)) (fun _ _ vi _ => s.size - (intOf vi).toNat)
  case atStart => exact ⟨0, true, 0, rfl, Nat.zero_le _, rfl, rfl, Nat.le_refl _, Lib.hid rfl, Lib.hid rfl, B4⟩
  case round =>
    clear B4
    obtain ⟨k, q, d, rfl, hk, rfl, rfl, hdk, HD, HQ, HBW⟩ := hrel
    by_cases hlt : k < s.size
    · have HCS := Lib.hid (count_snoc s k hlt)
      have HDS := Lib.hid (dd_snoc s k hlt)
      by_cases hdot : s[k] = 46
      · have e46 : ((s[k].toNat : Int) == 46) = true := by rw [hdot]; rfl
        have CDK := Lib.hid (CD.out k hlt hdot)
        have HD2 := Lib.hid (show d + 1 = ((bl s).take (k + 1)).count 46 by rw [HCS.out, if_pos hdot, ← HD.out])
        have HQ2 := Lib.hid (show q = ((bl s).take (k + 1)).all ddB by rw [HDS.out, dd_dot _ hdot, Bool.and_true, ← HQ.out])
        have c1 : (0 : Int) ≤ (k : Int) := by omega
        have c2 : (k : Int) ≤ (s.size : Int) := by omega
        have c3 : k ≤ s.size := hk
        have z1 : ¬ 9223372036854775807 < k + 1 := by omega
        have z3 : ¬ 9223372036854775807 < k + 1 + (s.size - k) := by omega
        have x1 : (s.extract 0 k).size = k := by simp; omega
        have x2 : (s.extract k s.size).size = s.size - k := by simp
        have HBD := Lib.hid (show Below w.heap.size w wr.drew from below_drewN HBW.out 1)
        clear HCS HDS HD HQ hdot
        cases q
        all_goals
          go_wp2_with fail
          go_region_held3 (fun _ => True) (trivial)
            (first
              | (go_at_call 18
                 (with_reducible refine (CDK.out wr.drew (HP.out.below HBD.out)).mono ?_)
                 rintro e m1 ⟨rfl, b1⟩
                 have B1 := Lib.hid (HBD.out.trans (b1.mono HBD.out.size))
                 clear b1))
          all_goals
            go_wp2_with fail
            go_roundw
            case rel => exact ⟨k + 1, _, d + 1, by go_num, hlt, by go_num, rfl, by omega, HD2, HQ2, B1⟩
            case measure => simp [intOf]; omega
      · have e46 : ((s[k].toNat : Int) == 46) = false := by
          rw [beq_eq_false_iff_ne]
          intro e
          refine hdot (UInt8.toNat_inj.1 ?_)
          show _ = 46
          omega
        have HD2 := Lib.hid (show d = ((bl s).take (k + 1)).count 46 by rw [HCS.out, if_neg hdot, ← HD.out]; rfl)
        have HQ1 := Lib.hid (dd_dig s[k] hdot)
        have HQ0 := Lib.hid (dd_no s[k] hdot)
        clear HCS HD hdot
        by_cases h1 : 48 ≤ (s[k].toNat : Int)
        · by_cases h2 : (s[k].toNat : Int) ≤ 57
          · have HQ2 := Lib.hid (show q = ((bl s).take (k + 1)).all ddB by rw [HDS.out, HQ1.out h1 h2, Bool.and_true, ← HQ.out])
            clear HDS HQ HQ1 HQ0
            cases q
            all_goals
              go_wp2_with fail
              go_roundw
              case rel => exact ⟨k + 1, _, d, by go_num, hlt, rfl, rfl, by omega, HD2, HQ2, HBW⟩
              case measure => simp [intOf]; omega
          · have HQ2 := Lib.hid (show false = ((bl s).take (k + 1)).all ddB by rw [HDS.out, HQ0.out (fun h => h2 h.2), Bool.and_false])
            clear HDS HQ HQ1 HQ0
            cases q
            all_goals
              go_wp2_with fail
              go_roundw
              case rel => exact ⟨k + 1, _, d, by go_num, hlt, rfl, rfl, by omega, HD2, HQ2, HBW⟩
              case measure => simp [intOf]; omega
        · have HQ2 := Lib.hid (show false = ((bl s).take (k + 1)).all ddB by rw [HDS.out, HQ0.out (fun h => h1 h.1), Bool.and_false])
          clear HDS HQ HQ1 HQ0
          cases q
          all_goals
            go_wp2_with fail
            go_roundw
            case rel => exact ⟨k + 1, _, d, by go_num, hlt, rfl, rfl, by omega, HD2, HQ2, HBW⟩
            case measure => simp [intOf]; omega
    · have htk : (bl s).take k = bl s := List.take_of_length_le (by rw [bl_length]; omega)
      have hD := HD.out
      have hQ := HQ.out
      rw [htk] at hD hQ
      obtain rfl : k = s.size := by omega
      obtain ⟨m, hm⟩ : ∃ m, s.size = m + 1 := ⟨s.size - 1, by omega⟩
      have l1 : IntKind.i64.wrap ((s.size : Int) - 1) = (m : Int) := by rw [IntWalk.i64_in _ (by omega)]; omega
      have l2 : (s.size : Int) - 1 = (m : Int) := by omega
      have l3 : m < s.size := by omega
      have l4 : (m : Int) < (s.size : Int) := by omega
      have hlast : s[m]'l3 ≠ 46 := by
        intro e
        refine one_last HNM.out ((bl s).take m) ?_
        have := bl_take s m l3
        rw [e, List.take_of_length_le (by rw [bl_length]; omega)] at this
        exact this
      have l5 : (((s[m]'l3).toNat : Int) != 46) = true := by
        rw [bne_iff_ne]
        intro e
        refine hlast (UInt8.toNat_inj.1 ?_)
        show _ = 46
        omega
      clear hlast htk hm
      cases q with
      | true =>
        have h3 := digits_dots HNM.out (show (bl s).all (fun c => c == 46 || digB10 c) = true from hQ.symm)
        rw [← hD] at h3
        subst h3
        have C5 := Lib.hid (fun (X : World) (hX : PowTab X) => named_at ((⟨#[48]⟩ : ByteArray) ++ s) false (by rw [show bl ((⟨#[48]⟩ : ByteArray) ++ s) = 48 :: bl s from by simp [bl]]; exact digits_nought HNM.out hQ.symm) X hX)
        have C6 := Lib.hid (fun (X : World) (hX : PowTab X) => named_at ((⟨#[49, 46]⟩ : ByteArray) ++ s) false (by rw [show bl ((⟨#[49, 46]⟩ : ByteArray) ++ s) = 49 :: 46 :: bl s from by simp [bl]]; exact digits_more HNM.out hQ.symm) X hX)
        clear hD hQ HD HQ CD CU
        go_wp2_with fail
        refine (C5.out _ (HP.out.below HBW.out)).mono ?_
        rintro e w21 ⟨rfl, b⟩
        have B21 := Lib.hid (HBW.out.trans (b.mono HBW.out.size))
        clear b HBW
        go_wp2_with fail
        refine (C6.out _ (HP.out.below B21.out)).mono ?_
        rintro e w22 ⟨rfl, b⟩
        have B22 := Lib.hid (B21.out.trans (b.mono B21.out.size))
        clear b B21
        go_wp2_with fail
        refine (wakes_any _ (HP.out.below B22.out)).mono ?_
        rintro e w23 ⟨rfl, b⟩
        have B23 := Lib.hid (B22.out.trans (b.mono B22.out.size))
        clear b B22
        go_wp2_with fail
        go_ret
        exact ⟨rfl, B23.out⟩
      | false =>
        obtain ⟨j, hj⟩ : ∃ j, n % s.size = j := ⟨_, rfl⟩
        have hjl : j < s.size := by rw [← hj]; exact Nat.mod_lt _ hs1
        have r1 : ¬ s.size = 0 := by omega
        have r2 : ((n : Int) % (s.size : Int)) = (j : Int) := by omega
        have r3 : ¬ (s.size : Int) = 0 := by omega
        have r4 : (n : Int).tmod (s.size : Int) = (j : Int) := by rw [Int.tmod_eq_emod_of_nonneg (by omega)]; exact r2
        have j1 : (0 : Int) ≤ (j : Int) := by omega
        have j2 : (j : Int) < (s.size : Int) := by omega
        have j3 : (j : Int) ≤ (s.size : Int) := by omega
        have j4 : (j : Int) + 1 ≤ (s.size : Int) := by omega
        have j5 : IntKind.i64.wrap ((j : Int) + 1) = (j : Int) + 1 := IntWalk.i64_in _ (by omega)
        have j6 : ((j : Int) + 1).toNat = j + 1 := by omega
        have j7 : (0 : Int) ≤ (j : Int) + 1 := by omega
        have CUJ := Lib.hid (CU.out j hjl)
        have HSM := Lib.hid (small_sub s[j])
        clear hD hQ HD HQ CD CU hj
        have d2 : (s.extract 0 j).size = j := by simp; omega
        have d3 : (s.extract (j + 1) s.size).size = s.size - (j + 1) := by simp
        have z5 : ¬ 9223372036854775807 < j + 1 := by omega
        have z6 : ¬ 9223372036854775807 < j + 1 + (s.size - (j + 1)) := by omega
        by_cases h1 : 97 ≤ (s[j].toNat : Int)
        · by_cases h2 : (s[j].toNat : Int) ≤ 122
          · have d0 : decide (97 ≤ (s[j].toNat : Int)) = true := decide_eq_true h1
            have d1 : decide ((s[j].toNat : Int) ≤ 122) = true := decide_eq_true h2
            obtain ⟨hsm, hsub⟩ := HSM.out h1 h2
            have hrun := run_one_text wr (s[j] - 32) (IntKind.u8.wrap ((s[j].toNat : Int) - 32)) (by rw [IntKind.wrap_u8]; omega)
            have HBD := Lib.hid (show Below w.heap.size w (wr.alloc (.cells #[.int .u8 (IntKind.u8.wrap ((s[j].toNat : Int) - 32))] 5)).drew from below_drewN (HBW.out.alloc HBW.out.size _) 1)
            have CUK := Lib.hid (CUJ.out hsm)
            clear hsub hsm HSM CUJ
            go_wp2_with fail
            go_region_held (fun _ => True) (trivial)
              (first
                | (go_at_call 18
                   (with_reducible refine (CUK.out (wr.alloc (.cells #[.int .u8 (IntKind.u8.wrap ((s[j].toNat : Int) - 32))] 5)).drew (HP.out.below HBD.out)).mono ?_)
                   rintro e m1 ⟨rfl, b1⟩
                   have B1 := Lib.hid (HBD.out.trans (b1.mono HBD.out.size))
                   clear b1))
            all_goals
              go_wp2_with fail
              refine (wakes_any _ (HP.out.below B1.out)).mono ?_
              rintro e m2 ⟨rfl, b2⟩
              have B2 := Lib.hid (B1.out.trans (b2.mono B1.out.size))
              clear b2
              go_wp2_with fail
              go_ret
              exact ⟨rfl, B2.out⟩
          · have d0 : decide (97 ≤ (s[j].toNat : Int)) = true := decide_eq_true h1
            have d1 : decide ((s[j].toNat : Int) ≤ 122) = false := decide_eq_false h2
            clear HSM CUJ
            go_wp2_with fail
            go_quiet (fail)
            have HB : Hid (Below w.heap.size w (wr.drewN nq)) := Lib.hid (below_drewN HBW.out nq)
            go_wp2_with fail
            refine (wakes_any _ (HP.out.below HB.out)).mono ?_
            rintro e m2 ⟨rfl, b2⟩
            have B2 := Lib.hid (HB.out.trans (b2.mono HB.out.size))
            clear b2
            go_wp2_with fail
            go_ret
            exact ⟨rfl, B2.out⟩
        · have d0 : decide (97 ≤ (s[j].toNat : Int)) = false := decide_eq_false h1
          clear HSM CUJ
          go_wp2_with fail
          go_quiet (fail)
          have HB : Hid (Below w.heap.size w (wr.drewN nq)) := Lib.hid (below_drewN HBW.out nq)
          go_wp2_with fail
          refine (wakes_any _ (HP.out.below HB.out)).mono ?_
          rintro e m2 ⟨rfl, b2⟩
          have B2 := Lib.hid (HB.out.trans (b2.mono HB.out.size))
          clear b2
          go_wp2_with fail
          go_ret
          exact ⟨rfl, B2.out⟩

theorem one_true (s : ByteArray) (n : Int) (w : World) (hs : s.size ≤ 140737488351232) (h0 : 0 ≤ n) (h1 : n ≤ 255) (hp : PowTab w) :
    Calls Tryd.prog 6 #[.string s, .int .u8 n] w fun e w' => e = .returned (.bool true) ∧ Below w.heap.size w w' := by
  obtain ⟨k, rfl⟩ : ∃ k : Nat, n = (k : Int) := ⟨n.toNat, by omega⟩
  cases h : namedF (bl s) with
  | true => exact one_some s k w hp h (by omega)
  | false => exact one_none s k w hs hp h
end Go.Proofs.YthkcniimnaephaaDoor.Uri
