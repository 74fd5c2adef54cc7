/-
  What the law TextBack answers, as a call.
  Conditions: those that the theorem names.
-/
import Derived.Test.YtilfflpjlakkpaaDoorTZ
namespace Go.Proofs.YtilfflpjlakkpaaDoor
open Go.RowKit

theorem quoF_length (l : List UInt8) : (quoF l).length ≤ 2 * l.length + 2 := by
  have := quo_length l
  simp only [quoF, List.length_append, List.length_cons, List.length_nil]
  omega

theorem bl_append (a b : ByteArray) : bl (a ++ b) = bl a ++ bl b := by simp [bl]
theorem mk_append (a : Array UInt8) (l : List UInt8) : (⟨a⟩ ++ ⟨l.toArray⟩ : ByteArray) = ⟨(a.toList ++ l).toArray⟩ := by
  rw [← mk_bl (⟨a⟩ ++ ⟨l.toArray⟩), bl_append, bl_mk]
  rfl

/-- The list that the law makes of a quoted text. -/
theorem back_list (q bq : List UInt8) (w : World) (hq : q.length ≤ 300000000) (h : listF ([97, 44, 32] ++ q ++ [32, 44, 98, 61] ++ q) = [[97], q, bq]) :
    Calls Tryd.prog 22 #[.string (⟨#[97, 44, 32]⟩ ++ ⟨q.toArray⟩ ++ ⟨#[32, 44, 98, 61]⟩ ++ ⟨q.toArray⟩)] w (Listed [[97], q, bq] 3 w) := by
  have hb : bl (⟨#[97, 44, 32]⟩ ++ ⟨q.toArray⟩ ++ ⟨#[32, 44, 98, 61]⟩ ++ ⟨q.toArray⟩) = [97, 44, 32] ++ q ++ [32, 44, 98, 61] ++ q := by
    rw [bl_append, bl_append, bl_append, bl_mk]
    rfl
  refine tx_list_of _ _ 3 (by rw [hb]; exact h) rfl (by omega) ?_ w
  rw [← bl_length, hb]
  simp only [List.length_append, List.length_cons, List.length_nil]
  omega

theorem ubody_length : ∀ (l x : List UInt8), ubody l = some x → x.length ≤ l.length
  | [], x, h => by simp [ubody] at h
  | [c], x, h => by
    simp only [ubody] at h
    split at h
    · injection h with h; subst h; simp
    · cases h
  | c :: d :: l, x, h => by
    simp only [ubody] at h
    split at h
    · cases h
    · split at h
      · split at h
        · obtain ⟨y, hy, rfl⟩ := Option.map_eq_some_iff.1 h
          have := ubody_length l y hy
          simp
          omega
        · cases h
      · split at h
        · obtain ⟨y, hy, rfl⟩ := Option.map_eq_some_iff.1 h
          have := ubody_length (d :: l) y hy
          simp at this ⊢
          omega
        · cases h
theorem back_end (t y : List UInt8) (hy : unqF t = some y) : unqF (quoF y) = some y ∧ visF y = true ∧ y.length ≤ t.length := by
  have hv := unq_shown t y hy
  refine ⟨by rw [unq_quo, hv]; rfl, hv, ?_⟩
  cases t with
  | nil => simp [unqF] at hy
  | cons c l =>
    simp only [unqF] at hy
    split at hy
    · have := ubody_length l y hy
      simp
      omega
    · cases hy

set_option maxRecDepth 100000 in
set_option maxHeartbeats 4000000 in
theorem back_true (l t : List UInt8) (w : World) (hl : l.length ≤ 100000000) (ht : t.length ≤ 100000000) : Calls Tryd.prog 6 #[.string ⟨l.toArray⟩, .string ⟨t.toArray⟩] w fun e w' => e = .returned (.bool true) ∧ Below w.heap.size w w' := by
  have hql : (quoF l).length ≤ 300000000 := by have := quoF_length l; omega
  have HQ := Lib.hid (unq_quo l)
  have HP := Lib.hid (pair_quo l)
  have HLQ := Lib.hid (list_quo l)
  have he4 := mk_append #[98, 61] (quoF l)
  obtain ⟨bq, hbq⟩ : ∃ bq, bq = [98, 61] ++ quoF l := ⟨_, rfl⟩
  have hbl : bq.length ≤ 300000002 := by rw [hbq]; simp; omega
  rw [← hbq] at HP HLQ
  have e4 : (⟨#[98, 61]⟩ ++ ⟨(quoF l).toArray⟩ : ByteArray) = ⟨bq.toArray⟩ := by rw [he4, hbq]
  clear he4 hbq
  have CQ := Lib.hid (z_quote l w (by omega))
  generalize quoF l = q at *
  have E4 := Lib.hid e4
  clear e4
  go_enter Tryd.func6, Tryd.ntmps6
  go_wp2_with fail
  refine CQ.out.mono ?_
  rintro e w1 ⟨rfl, b1⟩
  go_wp2_with fail
  refine (z_unquote q w1 (by omega)).mono ?_
  rintro e w2 ⟨rfl, b2⟩
  rw [HQ.out]
  have CV := Lib.hid (z_visible l w2 (by omega))
  have CB := Lib.hid (fun X => back_list q bq X hql HLQ.out)
  have CP := Lib.hid (fun X => z_pair bq X (by omega))
  rw [HP.out] at CP
  cases hv : visF l
  case' true =>
    rw [hv] at CV CP
    have HV := Lib.hid hv
    clear hv
    go_wp2_with fail
    refine CV.out.mono ?_
    rintro e w3 ⟨rfl, b3⟩
    go_wp2_with fail
    refine (CB.out _).mono ?_
    rintro e w4 ⟨g, c, rfl, hg, _, hc, b4⟩
    have c0 := hc 0 _ rfl
    have c1 := hc 1 _ rfl
    have c2 := hc 2 _ rfl
    have e4 := E4.out
    clear hc
    go_wp2_with fail
    refine (CP.out _).mono ?_
    rintro e w5 ⟨rfl, b5⟩
    go_wp2_with fail
  case' false =>
    rw [hv] at CV CP
    have HV := Lib.hid hv
    clear hv
    go_wp2_with fail
    refine CV.out.mono ?_
    rintro e w3 ⟨rfl, b3⟩
    go_wp2_with fail
    refine (CB.out _).mono ?_
    rintro e w4 ⟨g, c, rfl, hg, _, hc, b4⟩
    have c0 := hc 0 _ rfl
    have c1 := hc 1 _ rfl
    have c2 := hc 2 _ rfl
    have e4 := E4.out
    clear hc
    go_wp2_with fail
    refine (CP.out _).mono ?_
    rintro e w5 ⟨rfl, b5⟩
    go_wp2_with fail
  all_goals
    refine (z_visible l w5 (by omega)).mono ?_
    rintro e w6 ⟨rfl, b6⟩
    rw [HV.out]
    go_wp2_with fail
    refine (z_unquote t w6 (by omega)).mono ?_
    rintro e w7 ⟨rfl, b7⟩
    have B7 := Below.more b1 (Below.more b2 (Below.more b3 (Below.more b4 (Below.more b5 (Below.more b6 b7)))))
    clear b1 b2 b3 b4 b5 b6 b7 c0 c1 c2 e4 CV CB CP HP HLQ HQ
    cases hr : unqF t with
    | none =>
      clear hr
      go_wp2_with fail
      refine (wakes_true w7).mono ?_
      rintro e w8 ⟨rfl, b8⟩
      go_wp2_with fail
      go_ret
      exact ⟨rfl, Below.more B7 b8⟩
    | some y =>
      obtain ⟨h1, h2, h3⟩ := back_end t y hr
      have H1 := Lib.hid h1
      have H2 := Lib.hid h2
      have h4 := quoF_length y
      have H4 := Lib.hid h4
      clear hr h1 h2 h4
      go_wp2_with fail
      refine (z_quote y w7 (by omega)).mono ?_
      rintro e w8 ⟨rfl, b8⟩
      go_wp2_with fail
      refine (z_unquote _ w8 (by have := H4.out; omega)).mono ?_
      rintro e w9 ⟨rfl, b9⟩
      rw [H1.out]
      go_wp2_with fail
      refine (z_visible y w9 (by omega)).mono ?_
      rintro e w10 ⟨rfl, b10⟩
      rw [H2.out]
      go_wp2_with fail
      refine (wakes_true w10).mono ?_
      rintro e w11 ⟨rfl, b11⟩
      go_wp2_with fail
      go_ret
      exact ⟨rfl, Below.more B7 (Below.more b8 (Below.more b9 (Below.more b10 b11)))⟩
end Go.Proofs.YtilfflpjlakkpaaDoor
