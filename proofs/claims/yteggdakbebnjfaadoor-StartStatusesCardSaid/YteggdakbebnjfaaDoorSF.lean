/-
  What the reference's PutRequest answers.
  Conditions: those that each theorem names.
-/
import Derived.Test.YteggdakbebnjfaaDoorSE
namespace Go.Proofs.YteggdakbebnjfaaDoor
open Go.RowKit

theorem toList_bl (x : ByteArray) : x.toList = bl x := by
  rw [Lib.toList_data]
  rfl
def putReqF (n : Int) (m t : List UInt8) : Option (List UInt8) :=
  if (n = 0 ∨ n = 1) ∧ tokF m = true ∧ m.length ≤ 32 ∧ targF t = true ∧ m.length + t.length + 10 ≤ 512 then some (reqL m t n.toNat) else none
set_option maxHeartbeats 8000000 in
set_option maxRecDepth 100000 in
theorem rputreq_in (n : Nat) (m t : ByteArray) (w : World) (hs : m.size + t.size + 10 ≤ 4000000) (hn : n = 0 ∨ n = 1) : Calls Tryd.prog 10 #[.string m, .string t, .int .i64 (n : Int)] w (PutGot (putReqF n (bl m) (bl t)) w) := by
  have hcv1 : (convert 53 9 (.slice (some ⟨w.heap.size, 0, none⟩) 1 1)).run Tryd.prog (w.alloc (.cells #[.int .u8 (48 + (n : Int))] 5)) = .ok (.string ⟨[UInt8.ofNat (48 + n)].toArray⟩) (w.alloc (.cells #[.int .u8 (48 + (n : Int))] 5)) :=
    run_convert_bytes_back (P := Tryd.prog) _ 53 9 5 ⟨w.heap.size, 0, none⟩ 1 [UInt8.ofNat (48 + n)] Tryd.underlying53 Tryd.underlying5 Tryd.underlying9 (fun j hj => by
      obtain rfl : j = 0 := by simpa using hj
      rw [add_at, World.cell?_alloc_new]
      simp only [List.getElem_cons_zero]
      rw [dig_of n (by omega)]
      simp)
  have hSL : reqL (bl m) (bl t) n = bl m ++ [32] ++ bl t ++ [32, 72, 84, 84, 80, 47, 49, 46] ++ [UInt8.ofNat (48 + n)] := by
    unfold reqL versL
    rcases hn with rfl | rfl <;> simp
  have hll : (reqL (bl m) (bl t) n).length = m.size + t.size + 10 := by
    rw [hSL]
    simp [bl_length]
    omega
  have hcn : ((n : Int) = 0 ∨ (n : Int) = 1) := by omega
  have hF2 : reqF (reqL (bl m) (bl t) n) = some (bl m, bl t, n) → putReqF n (bl m) (bl t) = some (reqL (bl m) (bl t) n) := fun h => by
    obtain ⟨_, q1, q2, q3, _, q5⟩ := (req_iff _ _ _ _).1 h
    unfold putReqF
    rw [if_pos ⟨hcn, q1, q2, q3, by rw [hll] at q5; rw [bl_length, bl_length]; exact q5⟩]
    rfl
  have hF3 : reqF (reqL (bl m) (bl t) n) ≠ some (bl m, bl t, n) → putReqF n (bl m) (bl t) = none := fun h => by
    unfold putReqF
    rw [if_neg]
    rintro ⟨_, q1, q2, q3, q5⟩
    exact h ((req_iff _ _ _ _).2 ⟨rfl, q1, q2, q3, by omega, by rw [hll]; rw [bl_length, bl_length] at q5; exact q5⟩)
  have hF1 := Lib.hid (show reqF (reqL (bl m) (bl t) n) = none → putReqF n (bl m) (bl t) = none from fun h => hF3 (by rw [h]; simp))
  have hBL : bl (m ++ (⟨#[32]⟩ : ByteArray) ++ t ++ ⟨#[32, 72, 84, 84, 80, 47, 49, 46]⟩ ++ ⟨[UInt8.ofNat (48 + n)].toArray⟩) = reqL (bl m) (bl t) n := by
    rw [hSL]
    simp [bl]
  have hBLH := Lib.hid hBL
  have hLH := Lib.hid hll
  have HF2 := Lib.hid hF2
  have HF3 := Lib.hid hF3
  have hmm : m.size ≤ 4000000 := by omega
  have htt : t.size ≤ 4000000 := by omega
  clear hBL hll hSL hF2 hF3 hcn
  have hln : [UInt8.ofNat (48 + n)].length = 1 := rfl
  generalize [UInt8.ofNat (48 + n)] = V at *
  generalize reqL (bl m) (bl t) n = L at *
  rcases hn with rfl | rfl
  · rw [show (48 : Int) + ((0 : Nat) : Int) = 48 from rfl] at hcv1
    go_enter Tryd.func10, Tryd.ntmps10
    go_wp2_with fail
    have hB0 : Hid (Below w.heap.size w (w.alloc (.cells #[.int .u8 48] 5))) := Lib.hid ((Below.refl _ _).alloc (Nat.le_refl _) _)
    generalize w.alloc (.cells #[.int .u8 48] 5) = w2 at *
    generalize (m ++ (⟨#[32]⟩ : ByteArray) ++ t ++ ⟨#[32, 72, 84, 84, 80, 47, 49, 46]⟩ ++ ⟨V.toArray⟩) = lb at *
    have hsz : lb.size ≤ 4000000 := by
      rw [← bl_length, hBLH.out, hLH.out]
      omega
    refine (rreq_any lb w2 hsz).mono ?_
    rintro e v ⟨hB, hm⟩
    have hB2 := Lib.hid (hB0.out.trans (hB.mono hB0.out.size))
    rw [hBLH.out] at hm
    cases hq : reqF L with
    | none =>
      rw [hq] at hm
      have HN := Lib.hid (hF1.out hq)
      clear hq hB
      subst hm
      go_wp2_with fail
      go_ret2
      exact ⟨hB2.out, by rw [HN.out]; rfl⟩
    | some x =>
      obtain ⟨a, b, k⟩ := x
      rw [hq] at hm
      subst hm
      clear hB hB0 hLH hsz hF1
      go_wp2_with fail
      all_goals
        go_ret2
        clear hcv1
        simp only [toList_bl] at *
        first
          | (have HN := HF3.out (by
              intro h
              rw [hq] at h
              simp only [Option.some.injEq, Prod.mk.injEq] at h
              obtain ⟨r1, r2, r3⟩ := h
              subst r3
              simp_all
              done)
             exact ⟨hB2.out, by rw [HN]; rfl⟩)
          | (have HN := HF2.out (by
              rw [hq]
              simp only [Option.some.injEq, Prod.mk.injEq]
              clear hB2 HF2 HF3 hBLH hq
              simp_all
              try omega)
             refine ⟨hB2.out, ?_⟩
             rw [HN, ← hBLH.out]
             simp only
             rw [mk_bl]
             rfl)
  · rw [show (48 : Int) + ((1 : Nat) : Int) = 49 from rfl] at hcv1
    go_enter Tryd.func10, Tryd.ntmps10
    go_wp2_with fail
    have hB0 : Hid (Below w.heap.size w (w.alloc (.cells #[.int .u8 49] 5))) := Lib.hid ((Below.refl _ _).alloc (Nat.le_refl _) _)
    generalize w.alloc (.cells #[.int .u8 49] 5) = w2 at *
    generalize (m ++ (⟨#[32]⟩ : ByteArray) ++ t ++ ⟨#[32, 72, 84, 84, 80, 47, 49, 46]⟩ ++ ⟨V.toArray⟩) = lb at *
    have hsz : lb.size ≤ 4000000 := by
      rw [← bl_length, hBLH.out, hLH.out]
      omega
    refine (rreq_any lb w2 hsz).mono ?_
    rintro e v ⟨hB, hm⟩
    have hB2 := Lib.hid (hB0.out.trans (hB.mono hB0.out.size))
    rw [hBLH.out] at hm
    cases hq : reqF L with
    | none =>
      rw [hq] at hm
      have HN := Lib.hid (hF1.out hq)
      clear hq hB
      subst hm
      go_wp2_with fail
      go_ret2
      exact ⟨hB2.out, by rw [HN.out]; rfl⟩
    | some x =>
      obtain ⟨a, b, k⟩ := x
      rw [hq] at hm
      subst hm
      clear hB hB0 hLH hsz hF1
      go_wp2_with fail
      all_goals
        go_ret2
        clear hcv1
        simp only [toList_bl] at *
        first
          | (have HN := HF3.out (by
              intro h
              rw [hq] at h
              simp only [Option.some.injEq, Prod.mk.injEq] at h
              obtain ⟨r1, r2, r3⟩ := h
              subst r3
              simp_all
              done)
             exact ⟨hB2.out, by rw [HN]; rfl⟩)
          | (have HN := HF2.out (by
              rw [hq]
              simp only [Option.some.injEq, Prod.mk.injEq]
              clear hB2 HF2 HF3 hBLH hq
              simp_all
              try omega)
             refine ⟨hB2.out, ?_⟩
             rw [HN, ← hBLH.out]
             simp only
             rw [mk_bl]
             rfl)
set_option maxHeartbeats 8000000 in
theorem rputreq_any (n : Int) (m t : ByteArray) (w : World) (hs : m.size + t.size + 10 ≤ 4000000) : Calls Tryd.prog 10 #[.string m, .string t, .int .i64 n] w (PutGot (putReqF n (bl m) (bl t)) w) := by
  by_cases hn : n = 0 ∨ n = 1
  · obtain ⟨k, rfl⟩ : ∃ k : Nat, n = (k : Int) := ⟨n.toNat, by omega⟩
    exact rputreq_in k m t w hs (by omega)
  · have HN := Lib.hid (show putReqF n (bl m) (bl t) = none from if_neg (by rintro ⟨h, _⟩; exact hn h))
    have e0 : (n == 0) = false := by simp; omega
    have e1 : (n == 1) = false := by simp; omega
    have d0 : (n != 0) = true := by simp; omega
    have d1 : (n != 1) = true := by simp; omega
    go_enter Tryd.func10, Tryd.ntmps10
    go_wp2_with fail
    go_ret2
    exact ⟨Below.refl _ _, by rw [HN.out]; rfl⟩
end Go.Proofs.YteggdakbebnjfaaDoor
