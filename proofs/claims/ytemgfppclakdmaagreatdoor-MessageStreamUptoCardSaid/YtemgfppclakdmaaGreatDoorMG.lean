/-
  What the reference's Request answers.
  Conditions: those that each theorem names.
-/
import Derived.Test.YtemgfppclakdmaaGreatDoorFT
import Derived.Test.YtemgfppclakdmaaGreatDoorMF
import Derived.Test.YtemgfppclakdmaaGreatDoorMC
import Derived.Test.YtemgfppclakdmaaGreatDoorSC
import Derived.Laws.Rows
namespace Go.Proofs.YtemgfppclakdmaaGreatDoor
open Go.RowKit

/-- What the reference's Request answers, by what is sure. -/
def askK (minor : Int) (sure : Bool) (b : Kd) : Kd := if minor ≠ 0 ∧ minor ≠ 1 then (0, 0, 1) else if sure = false then (0, 0, 22) else b
def tellK (status : Int) (m : List UInt8) (minor : Int) (sure : Bool) (b : Kd) : Kd :=
  if minor ≠ 0 ∧ minor ≠ 1 then (0, 0, 1)
  else if status < 100 ∨ 599 < status then (0, 0, 1)
  else if sure = false then (0, 0, 22)
  else if bodyF status m = false then (0, 0, 0)
  else if b.2.2 = 0 ∧ b.1 = 0 then (3, b.2) else b

set_option maxHeartbeats 4000000 in
set_option maxRecDepth 100000 in
theorem rrequest_any {P : Nat → Prop} (minor : Int) (w : World) (A : Option Addr) (ls : List Fld) (n c : Nat) (hn : ls.length = n) (h : SrcF w P A ls) (hm : Meek ls) :
    Calls Tryz.prog 32 #[.int .i64 minor, .slice A n c] w (Tells (reqK minor ls) w) := by
  have C1 := Lib.hid (fun (X : World) (hX : Below w.heap.size w X) => sure_any minor X A ls n c hn (by have := hm.fit.few; omega) (h.below hX) hm.thin hm.fit.lens hm.fit.cods hm.tx hm.tc)
  have C2 := Lib.hid (fun (X : World) (hX : Below w.heap.size w X) => rbody_any X A ls n c hn (h.below hX) hm)
  have HR := Lib.hid (show reqK minor ls = askK minor (sureK minor (getF ls lenN).length (getF ls codN).length (elsF (getF ls lenN)) (elsF (getF ls codN))) (bodyK (getF ls codN).length (elsF (getF ls lenN))) from reqK_sure minor ls)
  clear hn h hm
  generalize sureK minor (getF ls lenN).length (getF ls codN).length (elsF (getF ls lenN)) (elsF (getF ls codN)) = q at *
  generalize bodyK (getF ls codN).length (elsF (getF ls lenN)) = b at *
  generalize reqK minor ls = R at *
  obtain ⟨k, l, e⟩ := b
  unfold Tells kdV at C2
  simp only at C2
  unfold askK at HR
  by_cases hm : minor ≠ 0 ∧ minor ≠ 1
  · have q1 : (minor != 0) = true := by simpa using hm.1
    have q2 : (minor != 1) = true := by simpa using hm.2
    have HF := Lib.hid (HR.out.trans (if_pos hm))
    clear hm C1 C2
    go_enter Tryz.func32, Tryz.ntmps32
    go_wp2_with fail
    go_ret3
    exact ⟨tells3 (by rw [HF.out]; exact ⟨rfl, rfl, rfl⟩), Below.refl _ _⟩
  · have HM := Lib.hid (HR.out.trans (if_neg hm))
    have hq : (minor != 0) = false ∨ ((minor != 0) = true ∧ (minor != 1) = false) := by
      by_cases h0 : minor = 0
      · exact .inl (by simpa using h0)
      · exact .inr ⟨by simpa using h0, by simp; omega⟩
    clear hm HR
    rcases hq with q1 | ⟨q1, q2⟩
    all_goals
      cases q with
      | false =>
        have HF := Lib.hid (HM.out.trans (if_pos rfl))
        go_enter Tryz.func32, Tryz.ntmps32
        go_wp2_with fail
        refine (C1.out _ (Below.refl _ _)).mono ?_
        rintro x w1 ⟨rfl, b1⟩
        have B1 := Lib.hid b1
        clear b1
        go_wp2_with fail
        go_ret3
        exact ⟨tells3 (by rw [HF.out]; exact ⟨rfl, rfl, rfl⟩), B1.out⟩
      | true =>
        have HF := Lib.hid (HM.out.trans (if_neg (by simp)))
        go_enter Tryz.func32, Tryz.ntmps32
        go_wp2_with fail
        refine (C1.out _ (Below.refl _ _)).mono ?_
        rintro x w1 ⟨rfl, b1⟩
        have B1 := Lib.hid b1
        clear b1
        go_wp2_with fail
        refine (C2.out _ B1.out).mono ?_
        rintro x w2 ⟨rfl, b2⟩
        have B2 := Lib.hid (B1.out.trans (b2.mono B1.out.size))
        clear b2
        go_wp2_with fail
        go_ret3
        exact ⟨tells3 (by rw [HF.out]; exact ⟨rfl, rfl, rfl⟩), B2.out⟩

set_option maxHeartbeats 4000000 in
set_option maxRecDepth 100000 in
theorem rtell_any {P : Nat → Prop} (status : Int) (m : ByteArray) (minor : Int) (w : World) (A : Option Addr) (ls : List Fld) (n c : Nat) (hn : ls.length = n) (h : SrcF w P A ls) (hm : Meek ls) :
    Calls Tryz.prog 41 #[.int .i64 status, .string m, .int .i64 minor, .slice A n c] w (Tells (tellK status (bl m) minor (sureK minor (getF ls lenN).length (getF ls codN).length (elsF (getF ls lenN)) (elsF (getF ls codN))) (bodyK (getF ls codN).length (elsF (getF ls lenN)))) w) := by
  have C1 := Lib.hid (fun (X : World) (hX : Below w.heap.size w X) => sure_any minor X A ls n c hn (by have := hm.fit.few; omega) (h.below hX) hm.thin hm.fit.lens hm.fit.cods hm.tx hm.tc)
  have C2 := Lib.hid (fun (X : World) (hX : Below w.heap.size w X) => rbody_any X A ls n c hn (h.below hX) hm)
  clear hn h hm
  generalize sureK minor (getF ls lenN).length (getF ls codN).length (elsF (getF ls lenN)) (elsF (getF ls codN)) = q at *
  generalize bodyK (getF ls codN).length (elsF (getF ls lenN)) = b at *
  obtain ⟨k, l, e⟩ := b
  unfold Tells kdV at C2
  simp only at C2
  have HR := Lib.hid (show tellK status (bl m) minor q (k, l, e) = if minor ≠ 0 ∧ minor ≠ 1 then (0, 0, 1) else if status < 100 ∨ 599 < status then (0, 0, 1) else if q = false then (0, 0, 22) else if bodyF status (bl m) = false then (0, 0, 0) else if e = 0 ∧ k = 0 then (3, l, e) else (k, l, e) from rfl)
  have HB := Lib.hid (show bodyF status (bl m) = if m.toList = [72, 69, 65, 68] ∨ status < 200 ∨ status = 204 ∨ status = 304 then false else (m.toList != [67, 79, 78, 78, 69, 67, 84]) || decide (300 ≤ status) by rw [toList_bl]; rfl)
  by_cases hm : minor ≠ 0 ∧ minor ≠ 1
  · have q1 : (minor != 0) = true := by simpa using hm.1
    have q2 : (minor != 1) = true := by simpa using hm.2
    have HF := Lib.hid (HR.out.trans (if_pos hm))
    clear hm C1 C2
    go_enter Tryz.func41, Tryz.ntmps41
    go_wp2_with fail
    go_ret3
    exact ⟨tells3 (by rw [HF.out]; exact ⟨rfl, rfl, rfl⟩), Below.refl _ _⟩
  · have HM := Lib.hid (HR.out.trans (if_neg hm))
    have hq : (minor != 0) = false ∨ ((minor != 0) = true ∧ (minor != 1) = false) := by
      by_cases h0 : minor = 0
      · exact .inl (by simpa using h0)
      · exact .inr ⟨by simpa using h0, by simp; omega⟩
    clear hm HR
    rcases hq with q1 | ⟨q1, q2⟩
    all_goals
      by_cases hs : status < 100 ∨ 599 < status
      · have HF := Lib.hid (HM.out.trans (if_pos hs))
        have hs2 : decide (status < 100) = true ∨ (decide (status < 100) = false ∧ decide (599 < status) = true) := by
          by_cases h : status < 100
          · exact .inl (decide_eq_true h)
          · exact .inr ⟨decide_eq_false h, decide_eq_true (by omega)⟩
        clear hs
        rcases hs2 with s1 | ⟨s1, s2⟩
        all_goals
          go_enter Tryz.func41, Tryz.ntmps41
          go_wp2_with fail
          go_ret3
          exact ⟨tells3 (by rw [HF.out]; exact ⟨rfl, rfl, rfl⟩), Below.refl _ _⟩
      · have HS := Lib.hid (HM.out.trans (if_neg hs))
        have s1 : decide (status < 100) = false := decide_eq_false (by omega)
        have s2 : decide (599 < status) = false := decide_eq_false (by omega)
        clear hs HM
        cases q with
        | false =>
          have HF := Lib.hid (HS.out.trans (if_pos rfl))
          go_enter Tryz.func41, Tryz.ntmps41
          go_wp2_with fail
          refine (C1.out _ (Below.refl _ _)).mono ?_
          rintro x w1 ⟨rfl, b1⟩
          have B1 := Lib.hid b1
          clear b1
          go_wp2_with fail
          go_ret3
          exact ⟨tells3 (by rw [HF.out]; exact ⟨rfl, rfl, rfl⟩), B1.out⟩
        | true =>
          have HF := Lib.hid (HS.out.trans (if_neg (by simp)))
          clear HS
          by_cases hb : bodyF status (bl m) = false
          · have HG := Lib.hid (HF.out.trans (if_pos hb))
            have hc : (m.toList == [72, 69, 65, 68]) = true ∨ ((m.toList == [72, 69, 65, 68]) = false ∧ (decide (status < 200) = true ∨ (decide (status < 200) = false ∧ ((status == 204) = true ∨ ((status == 204) = false ∧ ((status == 304) = true ∨ ((status == 304) = false ∧ (m.toList == [67, 79, 78, 78, 69, 67, 84]) = true ∧ decide (200 ≤ status) = true ∧ decide (status < 300) = true))))))) := by
              rw [HB.out] at hb
              by_cases t1 : m.toList = [72, 69, 65, 68]
              · exact .inl (beq_iff_eq.2 t1)
              · refine .inr ⟨beq_eq_false_iff_ne.2 t1, ?_⟩
                by_cases t2 : status < 200
                · exact .inl (decide_eq_true t2)
                · refine .inr ⟨decide_eq_false t2, ?_⟩
                  by_cases t3 : status = 204
                  · exact .inl (beq_iff_eq.2 t3)
                  · refine .inr ⟨beq_eq_false_iff_ne.2 t3, ?_⟩
                    by_cases t4 : status = 304
                    · exact .inl (beq_iff_eq.2 t4)
                    · refine .inr ⟨beq_eq_false_iff_ne.2 t4, ?_⟩
                      rw [if_neg (fun k => k.elim t1 fun k => k.elim t2 fun k => k.elim t3 t4), Bool.or_eq_false_iff] at hb
                      obtain ⟨u1, u2⟩ := hb
                      have u3 := of_decide_eq_false u2
                      refine ⟨?_, decide_eq_true (by omega), decide_eq_true (by omega)⟩
                      unfold bne at u1
                      generalize (m.toList == [67, 79, 78, 78, 69, 67, 84]) = z at *
                      cases z
                      · cases u1
                      · rfl
            clear hb HF HB
            rcases hc with c1 | ⟨c1, c2 | ⟨c2, c3 | ⟨c3, c4 | ⟨c4, c5, c6, c7⟩⟩⟩⟩
            all_goals
              go_enter Tryz.func41, Tryz.ntmps41
              go_wp2_with fail
              refine (C1.out _ (Below.refl _ _)).mono ?_
              rintro x w1 ⟨rfl, b1⟩
              have B1 := Lib.hid b1
              clear b1
              go_wp2_with fail
              go_ret3
              exact ⟨tells3 (by rw [HG.out]; exact ⟨rfl, rfl, rfl⟩), B1.out⟩
          · have HG := Lib.hid (HF.out.trans (if_neg hb))
            have hc : (m.toList == [72, 69, 65, 68]) = false ∧ decide (status < 200) = false ∧ (status == 204) = false ∧ (status == 304) = false ∧ decide (200 ≤ status) = true ∧ ((m.toList == [67, 79, 78, 78, 69, 67, 84]) = false ∨ ((m.toList == [67, 79, 78, 78, 69, 67, 84]) = true ∧ decide (status < 300) = false)) := by
              rw [HB.out] at hb
              simp only [beq_iff_eq, beq_eq_false_iff_ne, decide_eq_true_eq, decide_eq_false_iff_not]
              split at hb
              · simp at hb
              · next h =>
                simp at hb
                by_cases hx : m.toList = [67, 79, 78, 78, 69, 67, 84]
                · have := hb hx
                  exact ⟨fun k => h (.inl k), by omega, by omega, by omega, by omega, .inr ⟨hx, by omega⟩⟩
                · exact ⟨fun k => h (.inl k), by omega, by omega, by omega, by omega, .inl hx⟩
            obtain ⟨c1, c2, c3, c4, c6, c57⟩ := hc
            have he : ((e : Int) == 0) = false ∨ (((e : Int) == 0) = true ∧ (((k : Int) == 0) = true ∨ ((k : Int) == 0) = false)) := by
              cases (e : Int) == 0 <;> cases (k : Int) == 0 <;> simp
            clear hb HF HB
            rcases c57 with c5 | ⟨c5, c7⟩
            all_goals
              rcases he with d1 | ⟨d1, d2 | d2⟩
              all_goals
                go_enter Tryz.func41, Tryz.ntmps41
                go_wp2_with fail
                refine (C1.out _ (Below.refl _ _)).mono ?_
                rintro x w1 ⟨rfl, b1⟩
                have B1 := Lib.hid b1
                clear b1
                go_wp2_with fail
                refine (C2.out _ B1.out).mono ?_
                rintro x w2 ⟨rfl, b2⟩
                have B2 := Lib.hid (B1.out.trans (b2.mono B1.out.size))
                clear b2
                go_wp2_with fail
                go_ret3
                refine ⟨tells3 ?_, B2.out⟩
                rw [HG.out]
                simp only [beq_iff_eq, beq_eq_false_iff_ne, ne_eq] at d1
                try simp only [beq_iff_eq, beq_eq_false_iff_ne, ne_eq] at d2
                first
                  | (rw [if_neg (by omega)]; exact ⟨rfl, rfl, rfl⟩)
                  | (rw [if_pos (by omega)]; exact ⟨rfl, rfl, rfl⟩)

theorem kindL_cons (x : List UInt8) (r : List (List UInt8)) : kindL (x :: r) = if (readF 10 x).2 ≠ 0 ∨ 4096 < (readF 10 x).1 then (0, 0, 21) else (1, (readF 10 x).1, 0) := rfl
theorem kindL_none (xs : List (List UInt8)) (b : Nat) (h1 : (bodyK b xs).2.2 = 0) (h2 : (bodyK b xs).1 = 0) : bodyK b xs = (0, 0, 0) := by
  unfold bodyK at *
  by_cases hb : b = 0
  · subst hb
    simp only [ne_eq, not_true_eq_false, if_false] at *
    cases xs with
    | nil => rfl
    | cons x r =>
      rw [kindL_cons] at *
      split at h1
      · simp at h1
      · next hc => rw [if_neg hc] at h2; simp at h2
  · simp [hb] at h2
theorem bodyK_err (xs : List (List UInt8)) (b : Nat) : (bodyK b xs).2.2 = 0 ∨ bodyK b xs = (0, 0, 21) := by
  unfold bodyK
  split
  · exact .inl rfl
  · cases xs with
    | nil => exact .inl rfl
    | cons x r =>
      rw [kindL_cons]
      split
      · exact .inr rfl
      · exact .inl rfl
theorem tell_res (status : Int) (m : List UInt8) (minor : Int) (sure : Bool) (b : Nat) (xs : List (List UInt8)) : tellK status m minor sure (bodyK b xs) = resK status m (askK minor sure (bodyK b xs)) := by
  unfold tellK resK askK
  have h1 := kindL_none xs b
  have h2 := bodyK_err xs b
  generalize bodyK b xs = p at *
  obtain ⟨k, l, e⟩ := p
  simp only at h1 h2
  by_cases hm : minor ≠ 0 ∧ minor ≠ 1
  · simp only [if_pos hm]
    split <;> simp
  · simp only [if_neg hm]
    by_cases hs : status < 100 ∨ 599 < status
    · simp only [if_pos hs]
    · simp only [if_neg hs]
      cases sure with
      | false => simp
      | true =>
        simp only [Bool.true_eq_false, if_false]
        by_cases hb : bodyF status m = false
        · rcases h2 with rfl | h2
          · simp [hb]
          · simp only [Prod.mk.injEq] at h2
            obtain ⟨rfl, rfl, rfl⟩ := h2
            simp [hb]
        · rcases h2 with rfl | h2
          · by_cases hk : k = 0
            · subst hk
              have := h1 rfl rfl
              simp only [Prod.mk.injEq, true_and, and_true] at this
              subst this
              simp [hb]
            · simp [hb, hk]
          · simp only [Prod.mk.injEq] at h2
            obtain ⟨rfl, rfl, rfl⟩ := h2
            simp [hb]
theorem rresponse_any {P : Nat → Prop} (status : Int) (m : ByteArray) (minor : Int) (w : World) (A : Option Addr) (ls : List Fld) (n c : Nat) (hn : ls.length = n) (h : SrcF w P A ls) (hm : Meek ls) :
    Calls Tryz.prog 41 #[.int .i64 status, .string m, .int .i64 minor, .slice A n c] w (Tells (resK status (bl m) (reqK minor ls)) w) := by
  have := rtell_any status m minor w A ls n c hn h hm
  rw [tell_res] at this
  rw [show reqK minor ls = askK minor _ _ from reqK_sure minor ls]
  exact this
end Go.Proofs.YtemgfppclakdmaaGreatDoor

namespace Go.Proofs.YtemgfppclakdmaaGreatDoor
open Go.RowKit

theorem results_cell2 {P : Program} {fn : Func} {p t u : Tmp} {ty : TypeId} (h : fn.results = #[.cell p ty, .tmp t, .tmp u]) (tmps : Array Value) (w : World) (g : Nat) (tt : TypeId) (cs : Array Value) (fr : Nat × Nat) (d : TypeDesc)
    (hp : tmps.getD p undef = .pointer (some ⟨g, 0, none⟩)) (hg : w.heap[g]? = some (.cells cs tt fr))
    (hu : P.underlying ty = some d) (hd : (match d with | .struct _ | .array _ _ => true | _ => false) = true) (hi : (P.info? ty).map (·.size) = some cs.size) :
    (results fn tmps).run P w = .ok (.tuple #[.agg cs, tmps.getD t undef, tmps.getD u undef]) w := by
  have hp' : tmps[p]?.getD undef = .pointer (some ⟨g, 0, none⟩) := by simpa using hp
  simp [results, h, hp', asAddr, run_loadVar_row w g tt ty cs fr d hg hu hd hi]
/-- Five cells are stored. -/
def put5 (X : World) (g : Nat) (a b c d e : Value) : World := ((((X.setCell ⟨g, 0, none⟩ a).setCell ⟨g, 1, none⟩ b).setCell ⟨g, 2, none⟩ c).setCell ⟨g, 3, none⟩ d).setCell ⟨g, 4, none⟩ e
theorem put5_is {X : World} {g : Nat} {T : TypeId} {a' b' c' d' e' : Value} (h : Is X g T [a', b', c', d', e']) (a b c d e : Value) : Is (put5 X g a b c d e) g T [a, b, c, d, e] :=
  ((((h.set 0 a).set 1 b).set 2 c).set 3 d).set 4 e
theorem put5_turn (X : World) (g : Nat) (a b c d e : Value) : Turn (· = g) X (put5 X g a b c d e) :=
  (((((Turn.refl (· = g) X).setCell (p := ⟨g, 0, none⟩) (fun _ => rfl) a).setCell (p := ⟨g, 1, none⟩) (fun _ => rfl) b).setCell (p := ⟨g, 2, none⟩) (fun _ => rfl) c).setCell (p := ⟨g, 3, none⟩) (fun _ => rfl) d).setCell (p := ⟨g, 4, none⟩) (fun _ => rfl) e
theorem put5_below {W X : World} {g : Nat} (hB : Below W.heap.size W X) (hg : W.heap.size = g) (a b c d e : Value) : Below W.heap.size W (put5 X g a b c d e) := by
  have ht := put5_turn X g a b c d e
  exact hB.trans ⟨ht.os, ht.tape, ht.output, ht.size, fun k hk => ht.block k (by have := hB.size; omega) (by omega)⟩
def rqZ : RqM × List Fld × List UInt8 := (([], [], 0), [], [])
def rsZ : RsM × List Fld × List UInt8 := ((0, 0, []), [], [])
/-- A request is told. -/
def RqGot9 (R : Option (RqM × List Fld × List UInt8) × Nat × Nat) (w : World) (e : Ending) (w' : World) : Prop :=
  ∃ fv fo bv bo, e = .returned (.tuple #[.agg #[.string ⟨(R.1.getD rqZ).1.1.toArray⟩, .string ⟨(R.1.getD rqZ).1.2.1.toArray⟩, .int .i64 ((R.1.getD rqZ).1.2.2 : Int), fv, bv], .int .i64 (R.2.1 : Int), .int .i64 (R.2.2 : Int)]) ∧
    OwnF w' fv fo (R.1.getD rqZ).2.1 ∧ Own w' bv bo (R.1.getD rqZ).2.2 ∧ (∀ b, fo = some b → w.heap.size ≤ b) ∧ (∀ b, bo = some b → w.heap.size ≤ b) ∧ Below w.heap.size w w'
/-- A response is told. -/
def RsGot9 (R : Option (RsM × List Fld × List UInt8) × Nat × Nat) (w : World) (e : Ending) (w' : World) : Prop :=
  ∃ fv fo bv bo, e = .returned (.tuple #[.agg #[.int .i64 ((R.1.getD rsZ).1.2.1 : Int), .string ⟨(R.1.getD rsZ).1.2.2.toArray⟩, .int .i64 ((R.1.getD rsZ).1.1 : Int), fv, bv], .int .i64 (R.2.1 : Int), .int .i64 (R.2.2 : Int)]) ∧
    OwnF w' fv fo (R.1.getD rsZ).2.1 ∧ Own w' bv bo (R.1.getD rsZ).2.2 ∧ (∀ b, fo = some b → w.heap.size ≤ b) ∧ (∀ b, bo = some b → w.heap.size ≤ b) ∧ Below w.heap.size w w'
theorem rq_stop {R : Option (RqM × List Fld × List UInt8) × Nat × Nat} {w w' : World} {e : Nat} {b : Int} (h : R = (none, 0, e)) (hb : b = e) (hB : Below w.heap.size w w') : RqGot9 R w (.returned (.tuple #[.agg #[.string ⟨#[]⟩, .string ⟨#[]⟩, .int .i64 0, .slice none 0 0, .slice none 0 0], .int .i64 0, .int .i64 b])) w' :=
  ⟨_, none, _, none, by rw [h, hb]; rfl, by rw [h]; exact OwnF.nil _, by rw [h]; exact Own.nil _, fun _ h => (by cases h), fun _ h => (by cases h), hB⟩
theorem rs_stop {R : Option (RsM × List Fld × List UInt8) × Nat × Nat} {w w' : World} {e : Nat} {b : Int} (h : R = (none, 0, e)) (hb : b = e) (hB : Below w.heap.size w w') : RsGot9 R w (.returned (.tuple #[.agg #[.int .i64 0, .string ⟨#[]⟩, .int .i64 0, .slice none 0 0, .slice none 0 0], .int .i64 0, .int .i64 b])) w' :=
  ⟨_, none, _, none, by rw [h, hb]; rfl, by rw [h]; exact OwnF.nil _, by rw [h]; exact Own.nil _, fun _ h => (by cases h), fun _ h => (by cases h), hB⟩
theorem line_eq {α : Type} {begin : List UInt8 → Option α} {kind : α → List Fld → Kd} {ended : Bool} {b line : List UInt8} {u e : Nat} (h : firstM b = (line, u, e)) : msgM begin kind ended b = if e ≠ 0 then (none, 0, e) else match begin line with
    | none => (none, 0, 20)
    | some a => restM kind ended b a (fieldsM b u) := by
  unfold msgM lineM
  rw [h]
  rfl
theorem rest_eq {α : Type} {kind : α → List Fld → Kd} {ended : Bool} {b : List UInt8} {a : α} {l : List Fld} {u e k n f : Nat} (h : kind a l = (k, n, f)) : restM kind ended b a (l, u, e) = if e ≠ 0 then (none, 0, e) else if f ≠ 0 then (none, 0, f) else doneM a l u (bodyM (b.drop u) (k, n, f) ended) := by
  unfold restM
  rw [h]
theorem done_eq {α : Type} {a : α} {l : List Fld} {u v e : Nat} {x : List UInt8} : doneM a l u (x, v, e) = if e ≠ 0 then (none, 0, e) else (some (a, l, x), u + v, 0) := rfl

set_option maxHeartbeats 16000000 in
set_option maxRecDepth 100000 in
theorem rrequest9_any {P : Nat → Prop} (W : World) (A : Option Addr) (bs : List UInt8) (n c : Nat) (hn : bs.length = n) (hnc : n ≤ c) (hmax : n ≤ 140737488351232) (h : Src W P A bs) :
    Calls Tryz.prog 10 #[.slice A n c] W (RqGot9 (requestM bs) W) := by
  obtain ⟨g, hg⟩ : ∃ g, W.heap.size = g := ⟨_, rfl⟩
  obtain ⟨R, hR⟩ : ∃ R, requestM bs = R := ⟨_, rfl⟩
  obtain ⟨line, at1, e1, hf⟩ : ∃ line at1 e1, firstM bs = (line, at1, e1) := ⟨_, _, _, rfl⟩
  have HR := Lib.hid (hR.symm.trans (line_eq (begin := Sta.reqF) (kind := (fun a l => reqK (a.2.2 : Int) l)) (ended := false) hf))
  have hfr := firstM_range bs
  rw [hf] at hfr
  simp only at hfr
  have HFR := Lib.hid hfr
  have CL := Lib.hid (fun (X : World) (hX : Below W.heap.size W X) => rline_any X A bs n c hn hnc (by omega) (h.kept (Turn.of_below (S := fun _ => False) hX) (fun _ _ h => h)))
  have CF := Lib.hid (fun (X : World) (hX : Below W.heap.size W X) (k : Nat) (hk : k ≤ n) (hk2 : k ≤ 512) => rfields_any X A bs n c k hn hnc hmax hk hk2 (h.kept (Turn.of_below (S := fun _ => False) hX) (fun _ _ h => h)))
  have HSRC := Lib.hid (fun (X : World) (hX : Below W.heap.size W X) => h.kept (P := P) (Turn.of_below (S := fun _ => False) hX) (fun _ _ h => h))
  have HN := Lib.hid hn
  rw [hf] at CL
  unfold LineGot at CL
  simp only at CL
  rw [hR]
  have I0 := Lib.hid (show Is (W.alloc (.cells #[.string ⟨#[]⟩, .string ⟨#[]⟩, .int .i64 0, .slice none 0 0, .slice none 0 0] 25)) g 25 [.string ⟨#[]⟩, .string ⟨#[]⟩, .int .i64 0, .slice none 0 0, .slice none 0 0] by have := Is.made W 25 [.string ⟨#[]⟩, .string ⟨#[]⟩, .int .i64 0, .slice none 0 0, .slice none 0 0]; rw [hg] at this; exact this)
  have B0 := Lib.hid (show Below W.heap.size W (W.alloc (.cells #[.string ⟨#[]⟩, .string ⟨#[]⟩, .int .i64 0, .slice none 0 0, .slice none 0 0] 25)) from (Below.refl _ _).alloc (Nat.le_refl _) _)
  have HG := Lib.hid hg
  clear hfr h hn hR hf
  go_enter Tryz.func10, Tryz.ntmps10
  go_wp2_with fail
  try simp only [HG.out]
  refine ((CL.out _ B0.out).mono (R' := fun e w' => e = .returned (.tuple #[.string ⟨line.toArray⟩, .int .i64 (at1 : Int), .int .i64 (e1 : Int)]) ∧ Below (W.alloc (.cells #[.string ⟨#[]⟩, .string ⟨#[]⟩, .int .i64 0, .slice none 0 0, .slice none 0 0] 25)).heap.size (W.alloc (.cells #[.string ⟨#[]⟩, .string ⟨#[]⟩, .int .i64 0, .slice none 0 0, .slice none 0 0] 25)) w') ?_).mono ?_
  · rintro e w' ⟨he, rfl⟩
    exact ⟨he, Below.refl _ _⟩
  rintro e w1 ⟨rfl, b1⟩
  have I1 := Lib.hid (I0.out.kept (Turn.of_below (S := fun _ => False) b1) (fun h => h))
  have B1 := Lib.hid (B0.out.trans (b1.mono B0.out.size))
  clear b1 hg CL
  by_cases h1 : e1 = 0
  · have d1 : ((e1 : Int) != 0) = false := by subst h1; rfl
    have HR1 := Lib.hid (HR.out.trans (if_neg (fun h => h h1)))
    have hat : at1 ≤ n ∧ at1 ≤ 512 ∧ line.length ≤ 512 := by
      rcases HFR.out with ⟨_, h2, h3, _, h5⟩ | ⟨h2, _, _⟩
      · exact ⟨by rw [← HN.out]; exact h2, h3, h5⟩
      · exact absurd h1 h2
    obtain ⟨hat1, hat2, hll⟩ := hat
    have CQ := Lib.hid (fun X : World => Sta.rreq_any ⟨line.toArray⟩ X (by rw [← bl_length, bl_mk]; omega))
    rw [bl_mk] at CQ
    unfold Sta.ReqGot at CQ
    clear HR HFR h1 hll
    cases hq : Sta.reqF line with
    | none =>
      rw [hq] at CQ HR1
      simp only at CQ HR1
      go_wp2_with fail
      refine (CQ.out _).mono ?_
      rintro e w2 ⟨b2, rfl⟩
      have I2 := Lib.hid (I1.out.kept (Turn.of_below (S := fun _ => False) b2) (fun h => h))
      have B2 := Lib.hid (B1.out.trans (b2.mono B1.out.size))
      clear b2
      have c20 : w2.cell? ⟨g, 0, none⟩ = some (.string ⟨#[]⟩) := I2.out.cell 0
      have f20 : w2.frozen? ⟨g, 0, none⟩ = false := I2.out.free 0
      have c21 : w2.cell? ⟨g, 1, none⟩ = some (.string ⟨#[]⟩) := I2.out.cell 1
      have f21 : w2.frozen? ⟨g, 1, none⟩ = false := I2.out.free 1
      have c22 : w2.cell? ⟨g, 2, none⟩ = some (.int .i64 0) := I2.out.cell 2
      have f22 : w2.frozen? ⟨g, 2, none⟩ = false := I2.out.free 2
      have c23 : w2.cell? ⟨g, 3, none⟩ = some (.slice none 0 0) := I2.out.cell 3
      have f23 : w2.frozen? ⟨g, 3, none⟩ = false := I2.out.free 3
      have c24 : w2.cell? ⟨g, 4, none⟩ = some (.slice none 0 0) := I2.out.cell 4
      have f24 : w2.frozen? ⟨g, 4, none⟩ = false := I2.out.free 4
      have I9 := Lib.hid (put5_is I2.out (.string ⟨#[]⟩) (.string ⟨#[]⟩) (.int .i64 0) (.slice none 0 0) (.slice none 0 0))
      have B9 := Lib.hid (put5_below B2.out HG.out (.string ⟨#[]⟩) (.string ⟨#[]⟩) (.int .i64 0) (.slice none 0 0) (.slice none 0 0))
      go_wp2_with fail
      refine bodyPost_ret (results_cell2 rfl _ _ g _ _ _ _ rfl I9.out Tryz.underlying25 rfl (by kernel_rfl)) rfl ?_
      exact rq_stop HR1.out rfl B9.out
    | some a =>
      obtain ⟨am, at_, an⟩ := a
      rw [hq] at CQ HR1
      simp only at CQ HR1
      clear hq
      obtain ⟨fl, at3, e3, hff⟩ : ∃ fl at3 e3, fieldsM bs at1 = (fl, at3, e3) := ⟨_, _, _, rfl⟩
      obtain ⟨kd, nn, ke, hke⟩ : ∃ kd nn ke, reqK (an : Int) fl = (kd, nn, ke) := ⟨_, _, _, rfl⟩
      rw [hff] at HR1
      have HR2 := Lib.hid (HR1.out.trans (rest_eq (kind := (fun a l => reqK (a.2.2 : Int) l)) (a := (am, at_, an)) hke))
      have hfr := fieldsM_range bs at1 (by rw [HN.out]; exact hat1) hat2
      have hbk := fieldsM_bulk bs at1
      rw [hff] at hfr hbk
      simp only at hfr hbk
      have hns := reqK_small (an : Int) fl
      rw [hke] at hns
      simp only at hns
      have CF2 := Lib.hid (fun (X : World) (hX : Below W.heap.size W X) => CF.out X hX at1 hat1 hat2)
      rw [hff] at CF2
      unfold HeadGot at CF2
      simp only at CF2
      have HFR := Lib.hid hfr
      have HBK := Lib.hid hbk
      clear HR1 CF hff hfr hbk
      go_wp2_with fail
      refine (CQ.out _).mono ?_
      rintro e w2 ⟨b2, rfl⟩
      have I2 := Lib.hid (I1.out.kept (Turn.of_below (S := fun _ => False) b2) (fun h => h))
      have B2 := Lib.hid (B1.out.trans (b2.mono B1.out.size))
      clear b2 CQ
      go_wp2_with fail
      refine (CF2.out _ B2.out).mono ?_
      rintro e w3 ⟨v3, o3, rfl, own3, f3, b3⟩
      have I3 := Lib.hid (I2.out.kept (Turn.of_below (S := fun _ => False) b3) (fun h => h))
      have B3 := Lib.hid (B2.out.trans (b3.mono B2.out.size))
      have O3 := Lib.hid own3
      have F3 := Lib.hid (fun (b : Nat) (hb : o3 = some b) => (show g < b by have := f3 b hb; have := I2.out.lt; omega))
      obtain ⟨A3, c3, rfl, s3⟩ := own3.src (fun _ => True) (fun _ _ => trivial)
      have S3 := Lib.hid s3
      clear own3 f3 b3 s3 CF2
      by_cases h3 : e3 = 0
      · have d3 : ((e3 : Int) != 0) = false := by subst h3; rfl
        have HR3 := Lib.hid (HR2.out.trans (if_neg (fun h => h h3)))
        have hat3 : at3 ≤ n := by
          rcases HFR.out with ⟨_, h2, _, _⟩ | ⟨h2, _, _⟩
          · rw [← HN.out]; exact h2
          · exact absurd h3 h2
        have CK := Lib.hid (rrequest_any (an : Int) w3 A3 fl fl.length c3 rfl S3.out (Meek.small (by have := HBK.out; omega)))
        rw [hke] at CK
        unfold Tells kdV at CK
        simp only at CK
        clear HR2 HFR h3 hke
        go_wp2_with fail
        refine CK.out.mono ?_
        rintro e w4 ⟨rfl, b4⟩
        have I4 := Lib.hid (I3.out.kept (Turn.of_below (S := fun _ => False) b4) (fun h => h))
        have B4 := Lib.hid (B3.out.trans (b4.mono B3.out.size))
        have O4 := Lib.hid (O3.out.kept (Turn.of_below (S := fun _ => False) b4) (fun _ _ h => h))
        clear b4 CK O3
        by_cases h4 : ke = 0
        · have d4 : ((ke : Int) != 0) = false := by subst h4; rfl
          have HR4 := Lib.hid (HR3.out.trans (if_neg (fun h => h h4)))
          obtain ⟨A5, hs5, hsrc5⟩ := run_tail8 A n c at3 hat3 hnc
          obtain ⟨bx, bu, be, hbb⟩ : ∃ bx bu be, bodyM (bs.drop at3) (kd, nn, 0) false = (bx, bu, be) := ⟨_, _, _, rfl⟩
          have CB := Lib.hid (rbody_msg w4 A5 (bs.drop at3) (n - at3) (c - at3) kd nn false (by rw [List.length_drop, HN.out]) (by omega) (by omega) hns (hsrc5 w4 P bs HN.out (HSRC.out w4 B4.out)))
          have hbr := bodyM_range (bs.drop at3) (kd, nn, 0) false (fun _ => hns)
          rw [hbb] at hbr CB
          rw [h4, hbb] at HR4
          have HR5 := Lib.hid (HR4.out.trans done_eq)
          rw [List.length_drop, HN.out] at hbr
          simp only at hbr
          have HBR := Lib.hid hbr
          unfold TakeGot at CB
          simp only at CB
          clear HR3 HR4 h4 hbr hbb hsrc5
          go_wp2_with fail
          refine CB.out.mono ?_
          rintro e w5 ⟨v5, o5, rfl, own5, f5, b5⟩
          obtain ⟨Av, cv, hv, _⟩ := own5.src (fun _ => True) (fun _ _ => trivial)
          subst hv
          have I5 := Lib.hid (I4.out.kept (Turn.of_below (S := fun _ => False) b5) (fun h => h))
          have B5 := Lib.hid (B4.out.trans (b5.mono B4.out.size))
          have O5 := Lib.hid (O4.out.kept (Turn.of_below (S := fun _ => False) b5) (fun _ _ h => h))
          have P5 := Lib.hid own5
          have F5 := Lib.hid (fun (b : Nat) (hb : o5 = some b) => (show g < b by have := f5 b hb; have := I4.out.lt; omega))
          clear own5 f5 b5 CB O4
          by_cases h5 : be = 0
          · have d5 : ((be : Int) != 0) = false := by subst h5; rfl
            have HF := Lib.hid (HR5.out.trans (if_neg (fun h => h h5)))
            have wr : IntKind.i64.wrap ((at3 : Int) + (bu : Int)) = (at3 : Int) + (bu : Int) := by
              have : bu ≤ n - at3 := by
                rcases HBR.out with ⟨_, _, h⟩ | ⟨_, _, h⟩ <;> omega
              rw [IntKind.wrap_i64]; omega
            clear HR5 h5 HBR
            have c50 : w5.cell? ⟨g, 0, none⟩ = some (.string ⟨#[]⟩) := I5.out.cell 0
            have f50 : w5.frozen? ⟨g, 0, none⟩ = false := I5.out.free 0
            have c51 : w5.cell? ⟨g, 1, none⟩ = some (.string ⟨#[]⟩) := I5.out.cell 1
            have f51 : w5.frozen? ⟨g, 1, none⟩ = false := I5.out.free 1
            have c52 : w5.cell? ⟨g, 2, none⟩ = some (.int .i64 0) := I5.out.cell 2
            have f52 : w5.frozen? ⟨g, 2, none⟩ = false := I5.out.free 2
            have c53 : w5.cell? ⟨g, 3, none⟩ = some (.slice none 0 0) := I5.out.cell 3
            have f53 : w5.frozen? ⟨g, 3, none⟩ = false := I5.out.free 3
            have c54 : w5.cell? ⟨g, 4, none⟩ = some (.slice none 0 0) := I5.out.cell 4
            have f54 : w5.frozen? ⟨g, 4, none⟩ = false := I5.out.free 4
            have I9 := Lib.hid (put5_is I5.out (.string ⟨am.toArray⟩) (.string ⟨at_.toArray⟩) (.int .i64 (an : Int)) (.slice A3 fl.length c3) (.slice Av bx.length cv))
            have B9 := Lib.hid (put5_below B5.out HG.out (.string ⟨am.toArray⟩) (.string ⟨at_.toArray⟩) (.int .i64 (an : Int)) (.slice A3 fl.length c3) (.slice Av bx.length cv))
            have O9 := Lib.hid (O5.out.kept (put5_turn w5 g (.string ⟨am.toArray⟩) (.string ⟨at_.toArray⟩) (.int .i64 (an : Int)) (.slice A3 fl.length c3) (.slice Av bx.length cv)) (fun b hb e => by have := F3.out b hb; omega))
            have P9 := Lib.hid (P5.out.kept (put5_turn w5 g (.string ⟨am.toArray⟩) (.string ⟨at_.toArray⟩) (.int .i64 (an : Int)) (.slice A3 fl.length c3) (.slice Av bx.length cv)) (fun b hb e => by have := F5.out b hb; omega))
            go_wp2_with fail
            refine bodyPost_ret (results_cell2 rfl _ _ g _ _ _ _ rfl I9.out Tryz.underlying25 rfl (by kernel_rfl)) rfl ?_
            have hg := HG.out
            exact ⟨_, o3, _, o5, by rw [HF.out]; rfl, by rw [HF.out]; exact O9.out, by rw [HF.out]; exact P9.out, fun b hb => by have := F3.out b hb; omega, fun b hb => by have := F5.out b hb; omega, B9.out⟩
          · have d5 : ((be : Int) != 0) = true := by simp; omega
            have HF := Lib.hid (HR5.out.trans (if_pos h5))
            clear HR5 h5 HBR
            have c50 : w5.cell? ⟨g, 0, none⟩ = some (.string ⟨#[]⟩) := I5.out.cell 0
            have f50 : w5.frozen? ⟨g, 0, none⟩ = false := I5.out.free 0
            have c51 : w5.cell? ⟨g, 1, none⟩ = some (.string ⟨#[]⟩) := I5.out.cell 1
            have f51 : w5.frozen? ⟨g, 1, none⟩ = false := I5.out.free 1
            have c52 : w5.cell? ⟨g, 2, none⟩ = some (.int .i64 0) := I5.out.cell 2
            have f52 : w5.frozen? ⟨g, 2, none⟩ = false := I5.out.free 2
            have c53 : w5.cell? ⟨g, 3, none⟩ = some (.slice none 0 0) := I5.out.cell 3
            have f53 : w5.frozen? ⟨g, 3, none⟩ = false := I5.out.free 3
            have c54 : w5.cell? ⟨g, 4, none⟩ = some (.slice none 0 0) := I5.out.cell 4
            have f54 : w5.frozen? ⟨g, 4, none⟩ = false := I5.out.free 4
            have I9 := Lib.hid (put5_is I5.out (.string ⟨#[]⟩) (.string ⟨#[]⟩) (.int .i64 0) (.slice none 0 0) (.slice none 0 0))
            have B9 := Lib.hid (put5_below B5.out HG.out (.string ⟨#[]⟩) (.string ⟨#[]⟩) (.int .i64 0) (.slice none 0 0) (.slice none 0 0))
            go_wp2_with fail
            refine bodyPost_ret (results_cell2 rfl _ _ g _ _ _ _ rfl I9.out Tryz.underlying25 rfl (by kernel_rfl)) rfl ?_
            exact rq_stop HF.out rfl B9.out
        · have d4 : ((ke : Int) != 0) = true := by simp; omega
          have HF := Lib.hid (HR3.out.trans (if_pos h4))
          clear HR3 h4
          have c40 : w4.cell? ⟨g, 0, none⟩ = some (.string ⟨#[]⟩) := I4.out.cell 0
          have f40 : w4.frozen? ⟨g, 0, none⟩ = false := I4.out.free 0
          have c41 : w4.cell? ⟨g, 1, none⟩ = some (.string ⟨#[]⟩) := I4.out.cell 1
          have f41 : w4.frozen? ⟨g, 1, none⟩ = false := I4.out.free 1
          have c42 : w4.cell? ⟨g, 2, none⟩ = some (.int .i64 0) := I4.out.cell 2
          have f42 : w4.frozen? ⟨g, 2, none⟩ = false := I4.out.free 2
          have c43 : w4.cell? ⟨g, 3, none⟩ = some (.slice none 0 0) := I4.out.cell 3
          have f43 : w4.frozen? ⟨g, 3, none⟩ = false := I4.out.free 3
          have c44 : w4.cell? ⟨g, 4, none⟩ = some (.slice none 0 0) := I4.out.cell 4
          have f44 : w4.frozen? ⟨g, 4, none⟩ = false := I4.out.free 4
          have I9 := Lib.hid (put5_is I4.out (.string ⟨#[]⟩) (.string ⟨#[]⟩) (.int .i64 0) (.slice none 0 0) (.slice none 0 0))
          have B9 := Lib.hid (put5_below B4.out HG.out (.string ⟨#[]⟩) (.string ⟨#[]⟩) (.int .i64 0) (.slice none 0 0) (.slice none 0 0))
          go_wp2_with fail
          refine bodyPost_ret (results_cell2 rfl _ _ g _ _ _ _ rfl I9.out Tryz.underlying25 rfl (by kernel_rfl)) rfl ?_
          exact rq_stop HF.out rfl B9.out
      · have d3 : ((e3 : Int) != 0) = true := by simp; omega
        have HF := Lib.hid (HR2.out.trans (if_pos h3))
        clear HR2 h3 HFR
        have c30 : w3.cell? ⟨g, 0, none⟩ = some (.string ⟨#[]⟩) := I3.out.cell 0
        have f30 : w3.frozen? ⟨g, 0, none⟩ = false := I3.out.free 0
        have c31 : w3.cell? ⟨g, 1, none⟩ = some (.string ⟨#[]⟩) := I3.out.cell 1
        have f31 : w3.frozen? ⟨g, 1, none⟩ = false := I3.out.free 1
        have c32 : w3.cell? ⟨g, 2, none⟩ = some (.int .i64 0) := I3.out.cell 2
        have f32 : w3.frozen? ⟨g, 2, none⟩ = false := I3.out.free 2
        have c33 : w3.cell? ⟨g, 3, none⟩ = some (.slice none 0 0) := I3.out.cell 3
        have f33 : w3.frozen? ⟨g, 3, none⟩ = false := I3.out.free 3
        have c34 : w3.cell? ⟨g, 4, none⟩ = some (.slice none 0 0) := I3.out.cell 4
        have f34 : w3.frozen? ⟨g, 4, none⟩ = false := I3.out.free 4
        have I9 := Lib.hid (put5_is I3.out (.string ⟨#[]⟩) (.string ⟨#[]⟩) (.int .i64 0) (.slice none 0 0) (.slice none 0 0))
        have B9 := Lib.hid (put5_below B3.out HG.out (.string ⟨#[]⟩) (.string ⟨#[]⟩) (.int .i64 0) (.slice none 0 0) (.slice none 0 0))
        go_wp2_with fail
        refine bodyPost_ret (results_cell2 rfl _ _ g _ _ _ _ rfl I9.out Tryz.underlying25 rfl (by kernel_rfl)) rfl ?_
        exact rq_stop HF.out rfl B9.out
  · have d1 : ((e1 : Int) != 0) = true := by simp; omega
    have HF := Lib.hid (HR.out.trans (if_pos h1))
    clear HR HFR h1
    have c10 : w1.cell? ⟨g, 0, none⟩ = some (.string ⟨#[]⟩) := I1.out.cell 0
    have f10 : w1.frozen? ⟨g, 0, none⟩ = false := I1.out.free 0
    have c11 : w1.cell? ⟨g, 1, none⟩ = some (.string ⟨#[]⟩) := I1.out.cell 1
    have f11 : w1.frozen? ⟨g, 1, none⟩ = false := I1.out.free 1
    have c12 : w1.cell? ⟨g, 2, none⟩ = some (.int .i64 0) := I1.out.cell 2
    have f12 : w1.frozen? ⟨g, 2, none⟩ = false := I1.out.free 2
    have c13 : w1.cell? ⟨g, 3, none⟩ = some (.slice none 0 0) := I1.out.cell 3
    have f13 : w1.frozen? ⟨g, 3, none⟩ = false := I1.out.free 3
    have c14 : w1.cell? ⟨g, 4, none⟩ = some (.slice none 0 0) := I1.out.cell 4
    have f14 : w1.frozen? ⟨g, 4, none⟩ = false := I1.out.free 4
    have I9 := Lib.hid (put5_is I1.out (.string ⟨#[]⟩) (.string ⟨#[]⟩) (.int .i64 0) (.slice none 0 0) (.slice none 0 0))
    have B9 := Lib.hid (put5_below B1.out HG.out (.string ⟨#[]⟩) (.string ⟨#[]⟩) (.int .i64 0) (.slice none 0 0) (.slice none 0 0))
    go_wp2_with fail
    refine bodyPost_ret (results_cell2 rfl _ _ g _ _ _ _ rfl I9.out Tryz.underlying25 rfl (by kernel_rfl)) rfl ?_
    exact rq_stop HF.out rfl B9.out
end Go.Proofs.YtemgfppclakdmaaGreatDoor
