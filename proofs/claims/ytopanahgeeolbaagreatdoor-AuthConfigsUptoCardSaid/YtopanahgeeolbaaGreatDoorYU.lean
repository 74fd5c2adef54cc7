/-
  What the reference's Named and path of package uri answer.
  Conditions: those that each theorem names.
-/
import Derived.Test.YtopanahgeeolbaaGreatDoorYT
import Derived.Test.YtopanahgeeolbaaGreatDoorYI
namespace Go.Proofs.YtopanahgeeolbaaGreatDoor.Uri
open Go.RowKit

theorem size_mkU (l : List UInt8) : (⟨l.toArray⟩ : ByteArray).size = l.length := by rw [← bl_length, bl_mk]

theorem host_yes (c : UInt8) (h : hostB c = true) : (((c.toNat : Int) != 45) = false) ∨ (((c.toNat : Int) != 45) = true ∧ (97 : Int) ≤ c.toNat ∧ (c.toNat : Int) ≤ 122) ∨ (((c.toNat : Int) != 45) = true ∧ (48 : Int) ≤ c.toNat ∧ (c.toNat : Int) ≤ 57) := by
  have := byte_every (fun c => !hostB c || (c.toNat == 45 || (decide (97 ≤ c.toNat) && decide (c.toNat ≤ 122)) || (decide (48 ≤ c.toNat) && decide (c.toNat ≤ 57)))) (by decide +kernel) c
  simp only [h, Bool.not_true, Bool.false_or, Bool.or_eq_true, beq_iff_eq, Bool.and_eq_true, decide_eq_true_eq] at this
  by_cases h45 : c.toNat = 45
  · left; rw [h45]; rfl
  · have h45' : ((c.toNat : Int) != 45) = true := by simp; omega
    rcases this with (h1 | h1) | h1
    · exact absurd h1 h45
    · exact .inr (.inl ⟨h45', by omega, by omega⟩)
    · exact .inr (.inr ⟨h45', by omega, by omega⟩)
theorem host_no (c : UInt8) (h : hostB c = false) : ((c.toNat : Int) != 45) = true ∧ ((c.toNat : Int) < 48 ∨ ((57 : Int) < c.toNat ∧ (c.toNat : Int) < 97) ∨ (122 : Int) < c.toNat) := by
  have := byte_every (fun c => hostB c || (!(c.toNat == 45) && (decide (c.toNat < 48) || (decide (57 < c.toNat) && decide (c.toNat < 97)) || decide (122 < c.toNat)))) (by decide +kernel) c
  simp only [h, Bool.false_or, Bool.or_eq_true, Bool.and_eq_true, decide_eq_true_eq, Bool.not_eq_true', beq_eq_false_iff_ne] at this
  obtain ⟨h1, h2⟩ := this
  refine ⟨by simp; omega, ?_⟩
  rcases h2 with (h2 | h2) | h2
  · exact .inl (by omega)
  · exact .inr (.inl ⟨by omega, by omega⟩)
  · exact .inr (.inr (by omega))
theorem all_snocH (s : ByteArray) (k : Nat) (h : k < s.size) (h1 : ((bl s).take k).all hostB = true) (hd : hostB s[k] = true) : ((bl s).take (k + 1)).all hostB = true := by
  rw [bl_take s k h, List.all_append, h1]
  simp [hd]
theorem named_is (s : ByteArray) (ls : List (List UInt8)) (h : splitF 46 (bl s) = ls) : namedF (bl s) = (decide (s.size ≤ 64) && (ls.all labF && (!numericF (lastF ls) || (decide (ls.length = 4) && ls.all octF)))) := by
  unfold namedF
  rw [h, bl_length]
theorem all_takeL {p : List UInt8 → Bool} (ls : List (List UInt8)) (k : Nat) (x : List UInt8) (h : ls[k]? = some x) : (ls.take (k + 1)).all p = ((ls.take k).all p && p x) := by
  rw [List.take_add_one, h, List.all_append]
  simp
theorem all_badL {p : List UInt8 → Bool} (ls : List (List UInt8)) (k : Nat) (x : List UInt8) (h : ls[k]? = some x) (hx : p x = false) : ls.all p = false := by
  rw [Bool.eq_false_iff]
  intro hall
  have := List.all_eq_true.1 hall x (List.mem_of_getElem? h)
  rw [hx] at this
  cases this

set_option maxHeartbeats 8000000 in
set_option maxRecDepth 100000 in
theorem rnamed_any (s : ByteArray) (w : World) (hs : s.size ≤ 4000000) : Calls Tryz.prog 72 #[.string s] w fun e w' => e = .returned (.bool (namedF (bl s))) ∧ Below w.heap.size w w' := by
  have C1 := Lib.hid (rlabels_any s w hs)
  have HN := Lib.hid (named_is s _ rfl)
  have HSZ := Lib.hid (fun p (hp : p ∈ splitF 46 (bl s)) => splitF_len 46 (bl s) p hp)
  have hlen : (splitF 46 (bl s)).length ≤ 4000001 := by
    rw [splitF_count]
    have := List.count_le_length (a := (46 : UInt8)) (l := bl s)
    rw [bl_length] at this
    omega
  obtain ⟨m, hm⟩ : ∃ m, (splitF 46 (bl s)).length = m + 1 := ⟨(splitF 46 (bl s)).length - 1, by have := splitF_count 46 (bl s); omega⟩
  have HL := Lib.hid (last_at _ m hm)
  have HM := Lib.hid hm
  rw [hm] at hlen
  clear hm
  generalize splitF 46 (bl s) = ls at *
  generalize lastF ls = x at *
  obtain ⟨X, hX⟩ : ∃ X : ByteArray, X = ⟨x.toArray⟩ := ⟨_, rfl⟩
  have HX := Lib.hid hX
  have CN := Lib.hid (fun W : World => rnumber_any X W (by
    have := HSZ.out x (List.mem_of_getElem? HL.out)
    rw [bl_length] at this
    rw [hX, size_mkU]
    omega))
  clear hX
  have c1 : IntKind.i64.wrap ((m + 1 : Nat) - 1 : Int) = (m : Int) := by rw [IntWalk.i64_in _ (by omega)]; omega
  have c2 : ((m + 1 : Nat) : Int) - 1 = (m : Int) := by omega
  go_enter Tryz.func72, Tryz.ntmps72
  go_wp2_with fail
  refine C1.out.mono ?_
  rintro e w1 ⟨v, o, rfl, hO, -, b1⟩
  obtain ⟨A, cp, hv, hsrc⟩ := hO.src (fun _ => True) (fun _ _ => trivial)
  obtain ⟨ad, hA, -, hlt0, hcell⟩ := hsrc (by rw [HM.out]; omega)
  rw [hA, HM.out] at hv
  subst hv
  have HC := Lib.hid hcell
  have HAT := Lib.hid (fun (i : Nat) (hi : i < m + 1) => run_at 49 9 Tryz.underlying49 strSize ad (m + 1) cp i hi)
  have B1 := Lib.hid b1
  clear hcell hsrc hO b1 hA hlt0
  obtain ⟨n, hn⟩ : ∃ n, m + 1 = n := ⟨_, rfl⟩
  have HMN := Lib.hid hn
  rw [hn] at c1 c2 HAT hlen HM
  have hmn : m < n := by omega
  go_wp2_with fail
  go_loopw [4, 5] (fun vo vi wr => ∃ (k : Nat) (b : Bool), vo = .bool b ∧ vi = .int .i64 (k : Int) ∧ k ≤ n ∧ Hid (b = (ls.take k).all octF) ∧ Hid ((ls.take k).all labF = true) ∧ w1 = wr) (fun _ vi _ => n - (intOf vi).toNat)
  case atStart => exact ⟨0, true, rfl, rfl, Nat.zero_le _, Lib.hid rfl, Lib.hid rfl, rfl⟩
  case round =>
    obtain ⟨k, b, rfl, rfl, hk, HBO, HLB, rfl⟩ := hrel
    by_cases hlt : k < n
    · obtain ⟨y, hy⟩ : ∃ y, ls[k]? = some y := ⟨_, List.getElem?_eq_getElem (by rw [HM.out]; exact hlt)⟩
      obtain ⟨Y, hY⟩ : ∃ Y : ByteArray, Y = ⟨y.toArray⟩ := ⟨_, rfl⟩
      have hYb : bl Y = y := by rw [hY, bl_mk]
      have hYs : Y.size ≤ 4000000 := by
        have := HSZ.out y (List.mem_of_getElem? hy)
        rw [bl_length] at this
        rw [← bl_length, hYb]
        omega
      have hc0 : w1.cell? (ad.add k) = some (.string Y) := by rw [hY]; exact HC.out k y hy
      have at0 := HAT.out k hlt
      have CO := Lib.hid (roctet_any Y w1 (by omega))
      rw [hYb] at CO
      have HLY := Lib.hid (fun h => all_badL (p := labF) ls k y hy h)
      have HTL := Lib.hid (all_takeL (p := labF) ls k y hy)
      have HTO := Lib.hid (all_takeL (p := octF) ls k y hy)
      have HYB := Lib.hid hYb
      clear hY hy hYb
      generalize ad.add k = p at *
      go_wp2_with fail
      go_loopw [6] (fun vj wr => ∃ j : Nat, vj = .int .i64 (j : Int) ∧ j ≤ Y.size ∧ Hid (((bl Y).take j).all hostB = true) ∧ w1 = wr) (fun vj _ => Y.size - (intOf vj).toNat)
      case atStart => exact ⟨0, rfl, Nat.zero_le _, Lib.hid rfl, rfl⟩
      case round =>
        obtain ⟨j, rfl, hj, HH, rfl⟩ := hrel
        by_cases hjl : j < Y.size
        · have HG := Lib.hid (bl_get Y j hjl)
          cases hh : hostB Y[j] with
          | true =>
            have HS := Lib.hid (all_snocH Y j hjl HH.out hh)
            rcases host_yes Y[j] hh with h45 | ⟨h45, h1, h2⟩ | ⟨h45, h1, h2⟩
            · clear hh
              go_wp2_with fail
              go_roundw
              case rel => exact ⟨j + 1, by go_num, hjl, HS, trivial⟩
              case measure => simp [intOf]; omega
            · clear hh
              have h1' : ¬ (Y[j].toNat : Int) < 97 := by omega
              have h2' : ¬ (122 : Int) < (Y[j].toNat : Int) := by omega
              go_wp2_with fail
              go_roundw
              case rel => exact ⟨j + 1, by go_num, hjl, HS, trivial⟩
              case measure => simp [intOf]; omega
            · clear hh
              have h0' : (Y[j].toNat : Int) < 97 := by omega
              have h1' : ¬ (Y[j].toNat : Int) < 48 := by omega
              have h2' : ¬ (57 : Int) < (Y[j].toNat : Int) := by omega
              go_wp2_with fail
              go_roundw
              case rel => exact ⟨j + 1, by go_num, hjl, HS, trivial⟩
              case measure => simp [intOf]; omega
          | false =>
            have HR := Lib.hid (show namedF (bl s) = false by
              rw [HN.out, HLY.out (by
                unfold labF
                rw [← HYB.out, Bool.and_eq_false_iff]
                exact .inr (all_noD _ _ Y[j] j HG.out hh))]
              simp)
            obtain ⟨h45, h1 | ⟨h1, h2⟩ | h1⟩ := host_no Y[j] hh
            · clear hh
              have h0' : (Y[j].toNat : Int) < 97 := by omega
              go_wp2_with fail
              go_ret
              exact ⟨ret_bool HR.out.symm, B1.out⟩
            · clear hh
              have h0' : ¬ (Y[j].toNat : Int) < 48 := by omega
              go_wp2_with fail
              go_ret
              exact ⟨ret_bool HR.out.symm, B1.out⟩
            · clear hh
              have h0' : ¬ (Y[j].toNat : Int) < 97 := by omega
              have h1' : ¬ (Y[j].toNat : Int) < 48 := by omega
              have h2' : (57 : Int) < (Y[j].toNat : Int) := by omega
              go_wp2_with fail
              go_ret
              exact ⟨ret_bool HR.out.symm, B1.out⟩
        · have hall := HH.out
          rw [List.take_of_length_le (by rw [bl_length]; omega), HYB.out] at hall
          have HAL := Lib.hid hall
          clear hall
          by_cases hz : Y.size = 0
          · have HR := Lib.hid (show namedF (bl s) = false by
              rw [HN.out, HLY.out (by
                unfold labF
                rw [← HYB.out, show bl Y = [] from List.eq_nil_of_length_eq_zero (by rw [bl_length]; exact hz)]
                rfl)]
              simp)
            have he : Y.toList.isEmpty = true := by rw [Lib.toList_data, show Y.data.toList = [] from List.eq_nil_of_length_eq_zero hz]; rfl
            clear hz
            go_wp2_with fail
            go_ret
            exact ⟨ret_bool HR.out.symm, B1.out⟩
          · have hlab : labF y = true := by
              unfold labF
              rw [HAL.out, ← HYB.out]
              have : bl Y ≠ [] := bl_ne' Y (by omega)
              simp [this]
            have HL2 := Lib.hid (show (ls.take (k + 1)).all labF = true by rw [HTL.out, HLB.out, hlab]; rfl)
            have he : Y.toList.isEmpty = false := by
              rw [Lib.toList_data]
              have : bl Y ≠ [] := bl_ne' Y (by omega)
              show (bl Y).isEmpty = false
              simp [this]
            clear hlab hz
            cases b with
            | true =>
              have HO2 := Lib.hid (show octF y = (ls.take (k + 1)).all octF by rw [HTO.out, ← HBO.out, Bool.true_and])
              go_wp2_with fail
              refine CO.out.mono ?_
              rintro e w2 ⟨rfl, rfl⟩
              go_wp2_with fail
              go_roundw
              case rel => exact ⟨k + 1, octF y, rfl, by go_num, hlt, HO2, HL2, trivial⟩
              case measure => simp [intOf]; omega
            | false =>
              have HO2 := Lib.hid (show false = (ls.take (k + 1)).all octF by rw [HTO.out, ← HBO.out, Bool.false_and])
              go_wp2_with fail
              go_roundw
              case rel => exact ⟨k + 1, false, rfl, by go_num, hlt, HO2, HL2, trivial⟩
              case measure => simp [intOf]; omega
    · obtain rfl : n = k := by omega
      have hO := HBO.out
      have hL := HLB.out
      rw [List.take_of_length_le (by rw [HM.out]; omega)] at hO hL
      have hN := HN.out
      rw [hL, Bool.true_and, ← hO, HM.out] at hN
      have hc0 : w1.cell? (ad.add m) = some (.string X) := by rw [HX.out]; exact HC.out m x HL.out
      have at0 := HAT.out m hmn
      have CNx := CN.out w1
      rw [HX.out, bl_mk, ← HX.out] at CNx
      have CM := Lib.hid CNx
      clear CNx hO hL
      generalize ad.add m = p at *
      generalize numericF x = nu at *
      have HRN := Lib.hid hN
      clear hN
      go_wp2_with fail
      refine CM.out.mono ?_
      rintro e w2 ⟨rfl, rfl⟩
      cases nu with
      | false =>
        go_wp2_with fail
        go_ret
        refine ⟨ret_bool ?_, B1.out⟩
        rw [HRN.out]
        simp
        omega
      | true =>
        by_cases h4 : n = 4
        · have e4 : ((n : Int) != 4) = false := by rw [h4]; rfl
          rw [decide_eq_true h4] at HRN
          clear h4
          cases b with
          | true =>
            go_wp2_with fail
            go_ret
            refine ⟨ret_bool ?_, B1.out⟩
            rw [HRN.out]
            simp
            omega
          | false =>
            have HR := Lib.hid (show namedF (bl s) = false by rw [HRN.out]; simp)
            go_wp2_with fail
            go_ret
            exact ⟨ret_bool HR.out.symm, B1.out⟩
        · have e4 : ((n : Int) != 4) = true := by simp; omega
          have HR := Lib.hid (show namedF (bl s) = false by rw [HRN.out, decide_eq_false h4]; simp)
          clear h4
          go_wp2_with fail
          go_ret
          exact ⟨ret_bool HR.out.symm, B1.out⟩
end Go.Proofs.YtopanahgeeolbaaGreatDoor.Uri
