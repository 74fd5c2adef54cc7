/-
  What the reference's Reason and PutStatus answer.
  Conditions: those that each theorem names.
-/
import Derived.Test.YteggdakbebnjfaaDoorSD
namespace Go.Proofs.YteggdakbebnjfaaDoor
open Go.RowKit

/-- The reason of a status. -/
def reasonF (n : Int) : List UInt8 :=
  if n = 200 then [79, 75] else
  if n = 304 then [78, 111, 116, 32, 77, 111, 100, 105, 102, 105, 101, 100] else
  if n = 400 then [66, 97, 100, 32, 82, 101, 113, 117, 101, 115, 116] else
  if n = 403 then [70, 111, 114, 98, 105, 100, 100, 101, 110] else
  if n = 407 then [80, 114, 111, 120, 121, 32, 65, 117, 116, 104, 101, 110, 116, 105, 99, 97, 116, 105, 111, 110, 32, 82, 101, 113, 117, 105, 114, 101, 100] else
  if n = 413 then [67, 111, 110, 116, 101, 110, 116, 32, 84, 111, 111, 32, 76, 97, 114, 103, 101] else
  if n = 429 then [84, 111, 111, 32, 77, 97, 110, 121, 32, 82, 101, 113, 117, 101, 115, 116, 115] else
  if n = 431 then [82, 101, 113, 117, 101, 115, 116, 32, 72, 101, 97, 100, 101, 114, 32, 70, 105, 101, 108, 100, 115, 32, 84, 111, 111, 32, 76, 97, 114, 103, 101] else
  if n = 501 then [78, 111, 116, 32, 73, 109, 112, 108, 101, 109, 101, 110, 116, 101, 100] else
  if n = 502 then [66, 97, 100, 32, 71, 97, 116, 101, 119, 97, 121] else
  if n = 503 then [83, 101, 114, 118, 105, 99, 101, 32, 85, 110, 97, 118, 97, 105, 108, 97, 98, 108, 101] else
  if n = 504 then [71, 97, 116, 101, 119, 97, 121, 32, 84, 105, 109, 101, 111, 117, 116] else
  []
set_option maxHeartbeats 8000000 in
theorem rreason (n : Int) (w : World) : Calls Tryd.prog 17 #[.int .i64 n] w fun e w' => e = .returned (.string ⟨(reasonF n).toArray⟩) ∧ w = w' := by
  go_enter Tryd.func17, Tryd.ntmps17
  go_wp2_with fail
  all_goals
    simp only [beq_eq_false_iff_ne, beq_iff_eq, ne_eq] at *
    go_ret
    refine ⟨?_, rfl⟩
    first
      | (subst n; rfl)
      | (unfold reasonF; simp [*])
/-- What PutStatus tells. -/
def PutGot (r : Option (List UInt8)) (w : World) (e : Ending) (w' : World) : Prop :=
  Below w.heap.size w w' ∧ match r with
    | none => e = .returned (.tuple #[.string ⟨#[]⟩, .int .i64 1])
    | some l => e = .returned (.tuple #[.string ⟨l.toArray⟩, .int .i64 0])
def putStatF (n st : Int) (r : List UInt8) : Option (List UInt8) :=
  if (n = 0 ∨ n = 1) ∧ 100 ≤ st ∧ st ≤ 599 ∧ visF r = true ∧ r.length + 13 ≤ 512 then some (statL n.toNat st.toNat r) else none
set_option maxHeartbeats 8000000 in
set_option maxRecDepth 100000 in
theorem rputstat_in (n st : Nat) (r : ByteArray) (w : World) (hs : r.size ≤ 140737488351232) (hn : n = 0 ∨ n = 1) (h1 : 100 ≤ st) (h2 : st ≤ 599) : Calls Tryd.prog 15 #[.int .i64 (n : Int), .int .i64 (st : Int), .string r] w (PutGot (putStatF n st (bl r)) w) := by
  have i1 : ¬ (st : Int) < 100 := by omega
  have i2 : ¬ (599 : Int) < (st : Int) := by omega
  have hcv1 : (convert 53 9 (.slice (some ⟨w.heap.size + 1, 0, none⟩) 1 1)).run Tryd.prog ((w.alloc (.cells #[.int .u8 (48 + (st : Int) / 100), .int .u8 (48 + (st : Int) / 10 % 10), .int .u8 (48 + (st : Int) % 10)] 5)).alloc (.cells #[.int .u8 (48 + (n : Int))] 5)) = .ok (.string ⟨[UInt8.ofNat (48 + n)].toArray⟩) ((w.alloc (.cells #[.int .u8 (48 + (st : Int) / 100), .int .u8 (48 + (st : Int) / 10 % 10), .int .u8 (48 + (st : Int) % 10)] 5)).alloc (.cells #[.int .u8 (48 + (n : Int))] 5)) :=
    run_convert_bytes_back (P := Tryd.prog) _ 53 9 5 ⟨w.heap.size + 1, 0, none⟩ 1 [UInt8.ofNat (48 + n)] Tryd.underlying53 Tryd.underlying5 Tryd.underlying9 (fun j hj => by
      obtain rfl : j = 0 := by simpa using hj
      rw [add_at]
      have hh : ∀ X : World, X.heap.size = w.heap.size + 1 → (X.alloc (.cells #[.int .u8 (48 + (n : Int))] 5)).cell? ⟨w.heap.size + 1, 0 + 0, none⟩ = some (.int .u8 (48 + (n : Int))) := fun X hX => by
        rw [← hX, World.cell?_alloc_new]
        rfl
      rw [hh _ (by simp)]
      simp only [List.getElem_cons_zero]
      rw [dig_of n (by omega)]
      simp)
  have hcv2 : (convert 53 9 (.slice (some ⟨w.heap.size, 0, none⟩) 3 3)).run Tryd.prog ((w.alloc (.cells #[.int .u8 (48 + (st : Int) / 100), .int .u8 (48 + (st : Int) / 10 % 10), .int .u8 (48 + (st : Int) % 10)] 5)).alloc (.cells #[.int .u8 (48 + (n : Int))] 5)) = .ok (.string ⟨(digL st).toArray⟩) ((w.alloc (.cells #[.int .u8 (48 + (st : Int) / 100), .int .u8 (48 + (st : Int) / 10 % 10), .int .u8 (48 + (st : Int) % 10)] 5)).alloc (.cells #[.int .u8 (48 + (n : Int))] 5)) :=
    run_convert_bytes_back (P := Tryd.prog) _ 53 9 5 ⟨w.heap.size, 0, none⟩ 3 (digL st) Tryd.underlying53 Tryd.underlying5 Tryd.underlying9 (fun j hj => by
      have hi := (Is.made w 5 [.int .u8 (48 + (st : Int) / 100), .int .u8 (48 + (st : Int) / 10 % 10), .int .u8 (48 + (st : Int) % 10)]).alloc (.cells #[.int .u8 (48 + (n : Int))] 5)
      rw [add_at]
      have hc := hi.cell (0 + j)
      rw [show ((w.alloc (.cells #[.int .u8 (48 + (st : Int) / 100), .int .u8 (48 + (st : Int) / 10 % 10), .int .u8 (48 + (st : Int) % 10)] 5)).alloc (.cells #[.int .u8 (48 + (n : Int))] 5)).cell? ⟨w.heap.size, 0 + j, none⟩ = _ from hc]
      have hj3 : j < 3 := hj
      have g1 := dig_of (st / 100) (by omega)
      have g2 := dig_of (st / 10 % 10) (by omega)
      have g3 := dig_of (st % 10) (by omega)
      match j, hj3 with
      | 0, _ => show some (Value.int .u8 _) = some (Value.int .u8 ((UInt8.ofNat (48 + st / 100)).toNat : Int)); rw [g1]; congr 2
      | 1, _ => show some (Value.int .u8 _) = some (Value.int .u8 ((UInt8.ofNat (48 + st / 10 % 10)).toNat : Int)); rw [g2]; congr 2
      | 2, _ => show some (Value.int .u8 _) = some (Value.int .u8 ((UInt8.ofNat (48 + st % 10)).toNat : Int)); rw [g3]; congr 2)
  have hdl : (digL st).length = 3 := rfl
  have hSL : statL n st (bl r) = [72, 84, 84, 80, 47, 49, 46] ++ [UInt8.ofNat (48 + n)] ++ [32] ++ digL st ++ [32] ++ bl r := by
    unfold statL versL
    rcases hn with rfl | rfl <;> simp
  have hll : (statL n st (bl r)).length = 13 + r.size := by
    rw [hSL]
    simp [hdl, bl_length]
    omega
  have hF : putStatF n st (bl r) = if (statF (statL n st (bl r))).isSome then some (statL n st (bl r)) else none := by
    have hcn : ((n : Int) = 0 ∨ (n : Int) = 1) := by omega
    unfold putStatF
    by_cases hv : visF (bl r) = true ∧ (bl r).length + 13 ≤ 512
    · have hsf := (stat_iff (statL n st (bl r)) (bl r) n st).2 ⟨rfl, by omega, h1, h2, hv.1, by rw [hll, ← bl_length]; omega⟩
      rw [hsf, if_pos ⟨hcn, by omega, by omega, hv.1, hv.2⟩]
      rfl
    · rw [if_neg (by rintro ⟨_, _, _, h⟩; exact hv h)]
      cases hsf : statF (statL n st (bl r)) with
      | none => rfl
      | some x =>
        obtain ⟨k, s', t⟩ := x
        obtain ⟨he, hk, _, _, hvt, hlt⟩ := (stat_iff _ t k s').1 hsf
        refine absurd ⟨?_, ?_⟩ hv
        · have : t = bl r := by
            have h3 : (statL n st (bl r)).drop 13 = (statL k s' t).drop 13 := by rw [he]
            exact h3.symm
          rw [← this]
          exact hvt
        · rw [hll, ← bl_length] at hlt
          omega
  have hBL : bl ((⟨#[72, 84, 84, 80, 47, 49, 46]⟩ : ByteArray) ++ ⟨[UInt8.ofNat (48 + n)].toArray⟩ ++ ⟨#[32]⟩ ++ ⟨(digL st).toArray⟩ ++ ⟨#[32]⟩ ++ r) = statL n st (bl r) := by
    rw [hSL]
    simp [bl]
  have hFH := Lib.hid hF
  have hBLH := Lib.hid hBL
  have hLH := Lib.hid hll
  clear hF hBL hll hSL
  have hln : [UInt8.ofNat (48 + n)].length = 1 := rfl
  generalize [UInt8.ofNat (48 + n)] = V at *
  generalize digL st = D at *
  generalize statL n st (bl r) = L at *
  rcases hn with rfl | rfl
  · rw [show (48 : Int) + ((0 : Nat) : Int) = 48 from rfl] at hcv1 hcv2
    go_enter Tryd.func15, Tryd.ntmps15
    go_wp2_with fail
    have hB0 : Hid (Below w.heap.size w ((w.alloc (.cells #[.int .u8 (48 + (st : Int) / 100), .int .u8 (48 + (st : Int) / 10 % 10), .int .u8 (48 + (st : Int) % 10)] 5)).alloc (.cells #[.int .u8 48] 5))) := Lib.hid (((Below.refl _ _).alloc (Nat.le_refl _) _).alloc (by simp) _)
    generalize (w.alloc (.cells #[.int .u8 (48 + (st : Int) / 100), .int .u8 (48 + (st : Int) / 10 % 10), .int .u8 (48 + (st : Int) % 10)] 5)).alloc (.cells #[.int .u8 48] 5) = w2 at *
    generalize ((⟨#[72, 84, 84, 80, 47, 49, 46]⟩ : ByteArray) ++ ⟨V.toArray⟩ ++ ⟨#[32]⟩ ++ ⟨D.toArray⟩ ++ ⟨#[32]⟩ ++ r) = lb at *
    have hsz : lb.size ≤ 140737488355328 := by
      rw [← bl_length, hBLH.out, hLH.out]
      omega
    refine (rstat_any lb w2 hsz).mono ?_
    rintro e v ⟨hB, hm⟩
    have hB2 := Lib.hid (hB0.out.trans (hB.mono hB0.out.size))
    rw [hBLH.out] at hm
    cases hq : statF L with
    | none =>
      rw [hq] at hm
      have HN := Lib.hid (show putStatF _ st (bl r) = none by rw [hFH.out, hq]; rfl)
      clear hq hB
      subst hm
      go_wp2_with fail
      go_ret2
      exact ⟨hB2.out, by rw [HN.out]; rfl⟩
    | some x =>
      obtain ⟨k, s', t⟩ := x
      rw [hq] at hm
      have HN := Lib.hid (show putStatF _ st (bl r) = some L by rw [hFH.out, hq]; rfl)
      clear hq hB
      subst hm
      go_wp2_with fail
      go_ret2
      refine ⟨hB2.out, ?_⟩
      rw [HN.out, ← hBLH.out]
      simp only
      rw [mk_bl]
      rfl
  · rw [show (48 : Int) + ((1 : Nat) : Int) = 49 from rfl] at hcv1 hcv2
    go_enter Tryd.func15, Tryd.ntmps15
    go_wp2_with fail
    have hB0 : Hid (Below w.heap.size w ((w.alloc (.cells #[.int .u8 (48 + (st : Int) / 100), .int .u8 (48 + (st : Int) / 10 % 10), .int .u8 (48 + (st : Int) % 10)] 5)).alloc (.cells #[.int .u8 49] 5))) := Lib.hid (((Below.refl _ _).alloc (Nat.le_refl _) _).alloc (by simp) _)
    generalize (w.alloc (.cells #[.int .u8 (48 + (st : Int) / 100), .int .u8 (48 + (st : Int) / 10 % 10), .int .u8 (48 + (st : Int) % 10)] 5)).alloc (.cells #[.int .u8 49] 5) = w2 at *
    generalize ((⟨#[72, 84, 84, 80, 47, 49, 46]⟩ : ByteArray) ++ ⟨V.toArray⟩ ++ ⟨#[32]⟩ ++ ⟨D.toArray⟩ ++ ⟨#[32]⟩ ++ r) = lb at *
    have hsz : lb.size ≤ 140737488355328 := by
      rw [← bl_length, hBLH.out, hLH.out]
      omega
    refine (rstat_any lb w2 hsz).mono ?_
    rintro e v ⟨hB, hm⟩
    have hB2 := Lib.hid (hB0.out.trans (hB.mono hB0.out.size))
    rw [hBLH.out] at hm
    cases hq : statF L with
    | none =>
      rw [hq] at hm
      have HN := Lib.hid (show putStatF _ st (bl r) = none by rw [hFH.out, hq]; rfl)
      clear hq hB
      subst hm
      go_wp2_with fail
      go_ret2
      exact ⟨hB2.out, by rw [HN.out]; rfl⟩
    | some x =>
      obtain ⟨k, s', t⟩ := x
      rw [hq] at hm
      have HN := Lib.hid (show putStatF _ st (bl r) = some L by rw [hFH.out, hq]; rfl)
      clear hq hB
      subst hm
      go_wp2_with fail
      go_ret2
      refine ⟨hB2.out, ?_⟩
      rw [HN.out, ← hBLH.out]
      simp only
      rw [mk_bl]
      rfl
set_option maxHeartbeats 8000000 in
theorem rputstat_any (n st : Int) (r : ByteArray) (w : World) (hs : r.size ≤ 140737488351232) : Calls Tryd.prog 15 #[.int .i64 n, .int .i64 st, .string r] w (PutGot (putStatF n st (bl r)) w) := by
  by_cases hn : n = 0 ∨ n = 1
  · by_cases h1 : st < 100
    · have HN := Lib.hid (show putStatF n st (bl r) = none from if_neg (by rintro ⟨_, h, _⟩; omega))
      rcases hn with rfl | rfl <;>
      · go_enter Tryd.func15, Tryd.ntmps15
        go_wp2_with fail
        go_ret2
        exact ⟨Below.refl _ _, by rw [HN.out]; rfl⟩
    · by_cases h2 : 599 < st
      · have HN := Lib.hid (show putStatF n st (bl r) = none from if_neg (by rintro ⟨_, _, h, _⟩; omega))
        rcases hn with rfl | rfl <;>
        · go_enter Tryd.func15, Tryd.ntmps15
          go_wp2_with fail
          go_ret2
          exact ⟨Below.refl _ _, by rw [HN.out]; rfl⟩
      · obtain ⟨k, rfl⟩ : ∃ k : Nat, n = (k : Int) := ⟨n.toNat, by omega⟩
        obtain ⟨t, rfl⟩ : ∃ t : Nat, st = (t : Int) := ⟨st.toNat, by omega⟩
        exact rputstat_in k t r w hs (by omega) (by omega) (by omega)
  · have HN := Lib.hid (show putStatF n st (bl r) = none from if_neg (by rintro ⟨h, _⟩; exact hn h))
    have e0 : (n == 0) = false := by simp; omega
    have e1 : (n == 1) = false := by simp; omega
    have d0 : (n != 0) = true := by simp; omega
    have d1 : (n != 1) = true := by simp; omega
    go_enter Tryd.func15, Tryd.ntmps15
    go_wp2_with fail
    go_ret2
    exact ⟨Below.refl _ _, by rw [HN.out]; rfl⟩
end Go.Proofs.YteggdakbebnjfaaDoor
