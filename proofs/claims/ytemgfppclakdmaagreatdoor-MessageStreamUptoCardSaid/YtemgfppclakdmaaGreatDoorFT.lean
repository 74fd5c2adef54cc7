/-
  What the reference's body, Request and Response answer.
  Conditions: those that each theorem names.
-/
import Derived.Test.YtemgfppclakdmaaGreatDoorFD
import Derived.Test.YtemgfppclakdmaaGreatDoorND
import Derived.Test.YtemgfppclakdmaaGreatDoorFG
namespace Go.Proofs.YtemgfppclakdmaaGreatDoor
open Go.RowKit

set_option maxRecDepth 100000 in
/-- append(v, s...). -/
theorem run_append_strs {P : Nat → Prop} (w : World) (v : Value) (o : Option Nat) (ls news : List (List UInt8)) (h : OwnS w v o ls) (A : Option Addr) (n c : Nat) (hn : news.length = n) (hs : SrcS w P A news) (hlen : (ls.length + news.length) * 16 ≤ 140737488355328) :
    ∃ (v' : Value) (w' : World) (o' : Option Nat), (Builtin.append_ #[114, 114] 114 #[v, .slice A n c]).run Tryz.prog w = .ok v' w' ∧ OwnS w' v' o' (ls ++ news) ∧ Turn (fun k => o = some k) w w' ∧ (∀ k, o' = some k → o = some k ∨ w.heap.size ≤ k) := by
  subst hn
  obtain ⟨i, hin, hz, hsz, hby⟩ := strParts
  obtain ⟨hown, ho⟩ := h
  cases A with
  | none =>
    have hb : news = [] := by
      cases news with
      | nil => rfl
      | cons b l => obtain ⟨ad, hA, _⟩ := hs (by simp); cases hA
    subst hb
    refine ⟨v, w, o, ?_, by rw [List.append_nil]; exact ⟨hown, ho⟩, Turn.refl _ _, fun k hk => .inl hk⟩
    rcases hown.2 with ⟨rfl, _⟩ | ⟨g, cap, cur, rfl, _, _, hnc, _⟩
    · simp [Builtin.append_, run_underlying Tryz.underlying114, sizeOf, typeInfo, hin, Builtin.lenOf, Builtin.firstCells]
    · simp [Builtin.append_, run_underlying Tryz.underlying114, sizeOf, typeInfo, hin, Builtin.lenOf, Builtin.firstCells, hnc, storeCells]
  | some a =>
    have hcells : ∀ j u, (strs news)[j]? = some u → w.cell? (a.add j) = some u := by
      intro j u hu
      have hj : j < news.length := by
        have := (List.getElem?_eq_some_iff.1 hu).1
        rwa [strs_length] at this
      obtain ⟨ad, hA, _, _, hc⟩ := hs (by omega)
      injection hA with hA
      subst hA
      have h1 := hc j _ (List.getElem?_eq_getElem hj)
      rw [h1, ← hu]
      simp [strs, List.getElem?_eq_getElem hj]
    obtain ⟨v', w', hrun, h2, h3, _, h5⟩ := run_append_own_at (P := Tryz.prog) w 0 114 114 9 i (.string ⟨#[]⟩) 1 16 Tryz.underlying114 hin hz hsz hby rfl (by omega) v ls.length (strs ls) hown a news.length c (strs news)
      (by rw [strs_length, Nat.mul_one]) hcells (strs_one _) (by simp only [maxLen]; omega) (by omega) (Nat.zero_le _)
    refine ⟨v', w', v'.ownBlock, hrun, ⟨?_, rfl⟩, Turn.of_grown h3 (fun k hk => by rw [← ho]; exact hk), fun k hk => ?_⟩
    · rw [List.length_append, strs, List.map_append]
      exact h2
    · rcases h5 with h | h
      · left; rw [← ho, ← h, hk]
      · right
        rw [h] at hk
        injection hk with hk
        omega

/-- Texts and a number are told. -/
def GotE (xs : List (List UInt8)) (k : Nat) (w : World) (e : Ending) (w' : World) : Prop := ∃ v o, e = .returned (.tuple #[v, .int .i64 (k : Int)]) ∧ OwnS w' v o xs ∧ (∀ b, o = some b → w.heap.size ≤ b) ∧ Below w.heap.size w w'
def Thin (ls : List Fld) : Prop := ∀ f ∈ ls, f.1.length ≤ 1000000000 ∧ f.2.length ≤ 1000000000
theorem elsF_get_le (ls : List Fld) (nm : List UInt8) (k : Nat) : (elsF (getF (ls.take k) nm)).length ≤ (elsF (getF ls nm)).length := by
  have : getF ls nm = getF (ls.take k) nm ++ getF (ls.drop k) nm := by unfold getF; rw [← List.map_append, ← List.filter_append, List.take_append_drop]
  rw [this]
  unfold elsF
  rw [List.flatMap_append, List.length_append]
  omega

set_option maxHeartbeats 8000000 in
set_option maxRecDepth 100000 in
theorem elements_any {P : Nat → Prop} (w : World) (A : Option Addr) (ls : List Fld) (n c : Nat) (hn : ls.length = n) (hmax : n ≤ 1000000000000) (h : SrcF w P A ls) (hs : Thin ls) (nm : ByteArray) (hnm : nm.size ≤ 1000000000) (hlen : (elsF (getF ls (bl nm))).length ≤ 1000000000000) :
    Calls Tryz.prog 101 #[.slice A n c, .string nm] w (GotE (elsF (getF ls (bl nm))) (getF ls (bl nm)).length w) := by
  have HN := Lib.hid hn
  have H := Lib.hid h
  have HS := Lib.hid hs
  have HL := Lib.hid hlen
  clear hn h hs hlen
  go_enter Tryz.func101, Tryz.ntmps101
  go_wp2_with fail
  go_loopw [6, 7, 8] (fun v vn vi wr => ∃ (k : Nat) (o : Option Nat) (r : List (List UInt8)) (m : Nat), vi = .int .i64 (k : Int) ∧ vn = .int .i64 (m : Int) ∧ k ≤ n ∧ m ≤ k ∧ Hid (elsF (getF (ls.take k) (bl nm)) = r) ∧ Hid ((getF (ls.take k) (bl nm)).length = m) ∧ Hid (OwnS wr v o r) ∧ Hid (∀ b, o = some b → w.heap.size ≤ b) ∧ Hid (Below w.heap.size w wr)) (fun _ _ vi _ => n - (intOf vi).toNat)
  case atStart => exact ⟨0, none, [], 0, rfl, rfl, Nat.zero_le _, Nat.zero_le _, Lib.hid rfl, Lib.hid rfl, Lib.hid (OwnS.nil _), Lib.hid (fun _ h => by cases h), Lib.hid (Below.refl _ _)⟩
  case round =>
    obtain ⟨k, o, r, m, rfl, rfl, hk, hm, HR, HM, HO, HOB, HB⟩ := hrel
    by_cases hlt : k < n
    · obtain ⟨p, f, hf, hat, y0, y1, _, _⟩ := H.out.at (c := c) HN.out hlt HB.out
      obtain ⟨s1, s2⟩ := HS.out f (List.mem_of_getElem? hf)
      have CS := Lib.hid (fun X : World => same_any ⟨f.1.toArray⟩ nm X (by rw [← bl_length, bl_mk]; omega) (by omega))
      rw [bl_mk] at CS
      have HT := Lib.hid (show getF (ls.take (k + 1)) (bl nm) = getF (ls.take k) (bl nm) ++ (if sameN (bl nm) f = true then [f.2] else []) by rw [take_snoc ls k f hf, getF_snoc])
      have HQ := Lib.hid (show sameN (bl nm) f = (lowF f.1 == lowF (bl nm)) from rfl)
      have HE := Lib.hid (Nat.le_trans (elsF_get_le ls (bl nm) (k + 1)) HL.out)
      have CLi := Lib.hid (fun X : World => list_any ⟨f.2.toArray⟩ X (by rw [← bl_length, bl_mk]; omega))
      rw [bl_mk] at CLi
      clear hf s1 s2
      generalize (lowF f.1 == lowF (bl nm)) = q at *
      generalize f.1 = f1 at *
      generalize f.2 = f2 at *
      cases q with
      | false =>
        rw [HQ.out, if_neg (by simp), List.append_nil] at HT
        go_wp2_with fail
        refine (CS.out _).mono ?_
        rintro e w5 ⟨rfl, b5⟩
        have B5 := Lib.hid (HB.out.trans (b5.mono HB.out.size))
        have O5 := Lib.hid (HO.out.kept (Turn.of_below (S := fun _ => False) b5) (fun _ _ h => h))
        clear b5
        go_wp2_with fail
        go_roundw
        case rel => exact ⟨k + 1, o, r, m, by go_num, rfl, hlt, by omega, Lib.hid (by rw [HT.out]; exact HR.out), Lib.hid (by rw [HT.out]; exact HM.out), O5, HOB, B5⟩
        case measure => simp [intOf]; omega
      | true =>
        rw [HQ.out, if_pos rfl] at HT
        have HE2 := Lib.hid (show elsF (getF (ls.take (k + 1)) (bl nm)) = r ++ listF f2 by rw [HT.out, elsF_snoc, HR.out])
        have HE3 := Lib.hid (show r.length + (listF f2).length ≤ 1000000000000 by
          have := HE.out
          rw [HE2.out, List.length_append] at this
          exact this)
        go_wp2_with fail
        refine (CS.out _).mono ?_
        rintro e w5 ⟨rfl, b5⟩
        have B5 := Lib.hid (HB.out.trans (b5.mono HB.out.size))
        have O5 := Lib.hid (HO.out.kept (Turn.of_below (S := fun _ => False) b5) (fun _ _ h => h))
        have d1 := (b5.cell (Lib.lt_of_cell y1)).trans y1
        clear b5
        go_wp2_with fail
        refine (CLi.out _).mono ?_
        rintro e w6 ⟨v6, o6, rfl, own6, ho6, b6⟩
        obtain ⟨A6, c6, hv6, src6⟩ := own6.src (fun _ => True) (fun _ _ => trivial)
        subst hv6
        have B6 := Lib.hid (B5.out.trans (b6.mono B5.out.size))
        have O6 := Lib.hid (O5.out.kept (Turn.of_below (S := fun _ => False) b6) (fun _ _ h => h))
        obtain ⟨v', w', o', hrun, own', t', ho'⟩ := run_append_strs w6 _ o r (listF f2) O6.out A6 _ c6 rfl src6 (by have := HE3.out; omega)
        have HR5 := Lib.hid hrun
        have OO := Lib.hid own'
        have TT := Lib.hid (own_turn B6.out HOB.out t' ho')
        clear hrun own' t' ho' own6 src6 ho6 b6 y0 y1 d1 hat
        go_wp2_with (at_builtin; refine append_by rfl (.tmp 24) (.tmp 30) 114 rfl _ _ v' w' rfl rfl HR5.out ?_)
        go_roundw
        case rel => exact ⟨k + 1, o', r ++ listF f2, m + 1, by go_num, by go_num, hlt, by omega, HE2, Lib.hid (by rw [HT.out, List.length_append, HM.out]; rfl), OO, Lib.hid TT.out.2, Lib.hid TT.out.1⟩
        case measure => simp [intOf]; omega
    · have HQ := Lib.hid (show elsF (getF ls (bl nm)) = r by rw [← HR.out, List.take_of_length_le (by rw [HN.out]; omega)])
      have HQ2 := Lib.hid (show (getF ls (bl nm)).length = m by rw [← HM.out, List.take_of_length_le (by rw [HN.out]; omega)])
      go_wp2_with fail
      go_ret2
      exact ⟨_, o, by rw [HQ2.out]; rfl, by rw [HQ.out]; exact HO.out, HOB.out, HB.out⟩
end Go.Proofs.YtemgfppclakdmaaGreatDoor

namespace Go.Proofs.YtemgfppclakdmaaGreatDoor
open Go.RowKit

/-- Two lengths say the same. -/
def sameP (p q : Nat × Nat) (y x : List UInt8) : Bool := (q.2 == p.2 && q.1 == p.1) && (p.2 != 3 || y == x)
def sameR (x y : List UInt8) : Bool := sameP (readF 10 x) (readF 10 y) y x
theorem sameR_rd (x y : List UInt8) : sameR x y = (rdF y == rdF x) := by
  unfold sameR sameP rdF
  rcases readF_cases x with hx | hx | ⟨n, hn, hx⟩ <;> rcases readF_cases y with hy | hy | ⟨m, hm, hy⟩ <;> rw [hx, hy, Bool.eq_iff_iff] <;> simp
  all_goals first | done | (constructor <;> (intro h; exact h.symm)) | (constructor <;> (intro h; omega))
theorem sameR_self (x : List UInt8) : sameR x x = true := by rw [sameR_rd]; simp
theorem rd_form (x : List UInt8) : (rdF x).2.2 = (readF 10 x).2 := by
  unfold rdF
  split
  · next h => exact h.symm
  · rfl
theorem sureL_is (x : List UInt8) (r : List (List UInt8)) : sureL (x :: r) = ((readF 10 x).2 != 5 && (x :: r).all (sameR x)) := by
  have e : ∀ y, okL (rdF x) y = (sameR x y && (rdF x).2.2 != 5) := fun y => by
    unfold okL
    rw [sameR_rd]
    cases h : (rdF y == rdF x)
    · simp
    · rw [eq_of_beq h]
  show (x :: r).all (okL (rdF x)) = _
  rw [← rd_form]
  cases h : ((rdF x).2.2 != 5)
  · simp only [List.all_cons, e, h]
    simp
  · rw [Bool.true_and]
    congr 1
    funext y
    rw [e, h, Bool.and_true]
/-- Are the lengths sure? -/
def sureK (minor : Int) (a b : Nat) (xs cs : List (List UInt8)) : Bool :=
  if a ≠ 0 ∧ b ≠ 0 then false
  else if b ≠ 0 then decide (minor = 1 ∧ cs.length = 1 ∧ cs.all isChk = true)
  else if a = 0 then true
  else if xs.length = 0 then false
  else sureL xs
theorem nth_zero (xs : List (List UInt8)) (x : List UInt8) (h : xs[0]? = some x) : ∃ r, xs = x :: r := by
  cases xs with
  | nil => simp at h
  | cons y r => simp at h; exact ⟨r, by rw [h]⟩

theorem all_noR {p : List UInt8 → Bool} {l : List (List UInt8)} {k : Nat} {x : List UInt8} (h : l[k]? = some x) (hp : p x = false) : l.all p = false := by
  rw [← Bool.not_eq_true, List.all_eq_true]
  intro hall
  rw [hall x (List.mem_of_getElem? h)] at hp
  cases hp
theorem ret_is {a b : Bool} (h : b = a) : Ending.returned (.bool a) = Ending.returned (.bool b) := by rw [h]
theorem SrcS.first {P : Nat → Prop} {w : World} {A : Option Addr} {ls : List (List UInt8)} {c : Nat} (h : SrcS w P A ls) (hlt : 0 < ls.length) :
    ∃ (p : Addr) (x : List UInt8), ls[0]? = some x ∧ (∀ Wx, (Instr.indexAt 114 (.slice A ls.length c) (.int .i64 0)).run Tryz.prog Wx = .ok (.pointer (some p)) Wx) ∧ w.cell? p = some (.string ⟨x.toArray⟩) ∧ p.block < w.heap.size := by
  obtain ⟨p, x, h1, h2, h3, _, h5⟩ := h.at (c := c) rfl hlt (Below.refl _ _)
  exact ⟨p, x, h1, h2, h3, h5⟩

set_option maxHeartbeats 8000000 in
set_option maxRecDepth 100000 in
theorem sure_any {P : Nat → Prop} (minor : Int) (w : World) (A : Option Addr) (ls : List Fld) (n c : Nat) (hn : ls.length = n) (hmax : n ≤ 1000000000000) (h : SrcF w P A ls) (hs : Thin ls)
    (hx : (elsF (getF ls lenN)).length ≤ 1000000000000) (hc : (elsF (getF ls codN)).length ≤ 1000000000000) (tx : SlimS (elsF (getF ls lenN))) (tc : SlimS (elsF (getF ls codN))) :
    Calls Tryz.prog 63 #[.int .i64 minor, .slice A n c] w fun e w' =>
      e = .returned (.bool (sureK minor (getF ls lenN).length (getF ls codN).length (elsF (getF ls lenN)) (elsF (getF ls codN)))) ∧ Below w.heap.size w w' := by
  have C1 := Lib.hid (elements_any w A ls n c hn hmax h hs ⟨#[99, 111, 110, 116, 101, 110, 116, 45, 108, 101, 110, 103, 116, 104]⟩ (by decide) hx)
  have C2 := Lib.hid (fun (X : World) (hX : Below w.heap.size w X) => elements_any X A ls n c hn hmax (h.below hX) hs ⟨#[116, 114, 97, 110, 115, 102, 101, 114, 45, 101, 110, 99, 111, 100, 105, 110, 103]⟩ (by decide) hc)
  rw [show bl ⟨#[99, 111, 110, 116, 101, 110, 116, 45, 108, 101, 110, 103, 116, 104]⟩ = lenN from rfl] at C1
  rw [show bl ⟨#[116, 114, 97, 110, 115, 102, 101, 114, 45, 101, 110, 99, 111, 100, 105, 110, 103]⟩ = codN from rfl] at C2
  have TX := Lib.hid tx
  have TC := Lib.hid tc
  clear hn h hs tx tc hmax
  generalize (getF ls lenN).length = a at *
  generalize (getF ls codN).length = b at *
  generalize elsF (getF ls lenN) = xs at *
  generalize elsF (getF ls codN) = cs at *
  have HK := Lib.hid (show sureK minor a b xs cs = if a ≠ 0 ∧ b ≠ 0 then false else if b ≠ 0 then decide (minor = 1 ∧ cs.length = 1 ∧ cs.all isChk = true) else if a = 0 then true else if xs.length = 0 then false else sureL xs from rfl)
  generalize sureK minor a b xs cs = R at *
  go_enter Tryz.func63, Tryz.ntmps63
  go_wp2_with fail
  refine C1.out.mono ?_
  rintro e w1 ⟨v1, o1, rfl, own1, ho1, b1⟩
  have B1 := Lib.hid b1
  obtain ⟨A1, c1, hv1, src1⟩ := own1.src (fun _ => True) (fun _ _ => trivial)
  subst hv1
  have R1 := Lib.hid src1
  have C3 := Lib.hid (C2.out w1 b1)
  clear own1 ho1 b1 src1 C1 C2
  go_wp2_with fail
  refine C3.out.mono ?_
  rintro e w2 ⟨v2, o2, rfl, own2, ho2, b2⟩
  obtain ⟨A2, c2, hv2, src2⟩ := own2.src (fun _ => True) (fun _ _ => trivial)
  subst hv2
  have R2 := Lib.hid src2
  have R3 := Lib.hid (R1.out.kept (Turn.of_below (S := fun _ => False) b2) (fun _ _ h => h))
  have B2 := Lib.hid (B1.out.trans (b2.mono B1.out.size))
  clear own2 ho2 b2 src2 C3 R1 B1
  by_cases hb : 0 < b
  · have e2 : decide ((0 : Int) < (b : Int)) = true := by simpa using hb
    have e2n : decide (0 < b) = true := by simpa using hb
    by_cases ha : 0 < a
    · have e1 : decide ((0 : Int) < (a : Int)) = true := by simpa using ha
      have e1n : decide (0 < a) = true := by simpa using ha
      have HR := Lib.hid (HK.out.trans (if_pos ⟨by omega, by omega⟩))
      clear HK ha hb
      go_wp2_with fail
      go_ret
      exact ⟨ret_is HR.out, B2.out⟩
    · have e1 : decide ((0 : Int) < (a : Int)) = false := by simpa using ha
      have e1n : decide (0 < a) = false := by simpa using ha
      have HR := Lib.hid ((HK.out.trans (if_neg (fun h => ha (by omega)))).trans (if_pos (by omega)))
      clear HK ha hb
      cases q1 : (minor == 1) with
      | false =>
        have HF := Lib.hid (HR.out.trans (decide_eq_false (fun h => by rw [h.1] at q1; cases q1)))
        go_wp2_with fail
        go_ret
        exact ⟨ret_is HF.out, B2.out⟩
      | true =>
        cases q2 : ((cs.length : Int) == 1) with
        | false =>
          have HF := Lib.hid (HR.out.trans (decide_eq_false (fun h => by rw [h.2.1] at q2; cases q2)))
          go_wp2_with fail
          go_ret
          exact ⟨ret_is HF.out, B2.out⟩
        | true =>
          have hl : cs.length = 1 := by have := eq_of_beq q2; omega
          obtain ⟨p0, x0, hx0, hat0, hc0, _⟩ := R2.out.first (c := c2) (by omega)
          obtain ⟨r0, hr0⟩ := nth_zero cs x0 hx0
          have hr1 : r0 = [] := by rw [hr0] at hl; simpa using hl
          have CS := Lib.hid (same_any ⟨x0.toArray⟩ ⟨#[99, 104, 117, 110, 107, 101, 100]⟩ w2 (by rw [← bl_length, bl_mk]; exact TC.out x0 (List.mem_of_getElem? hx0)) (by decide))
          rw [bl_mk] at CS
          have HF := Lib.hid (HR.out.trans (show decide (minor = 1 ∧ cs.length = 1 ∧ cs.all isChk = true) = (lowF x0 == lowF (bl ⟨#[99, 104, 117, 110, 107, 101, 100]⟩)) by
            rw [hr0, hr1, Bool.eq_iff_iff]
            simp only [decide_eq_true_eq, eq_of_beq q1, List.length_singleton, List.all_cons, List.all_nil, Bool.and_true, true_and]
            rfl))
          generalize (lowF x0 == lowF (bl ⟨#[99, 104, 117, 110, 107, 101, 100]⟩)) = q at *
          clear hx0 hr0 hr1 HR hl
          obtain ⟨xl, hxl⟩ : ∃ xl : ByteArray, xl = ⟨x0.toArray⟩ := ⟨_, rfl⟩
          rw [← hxl] at hc0 CS
          clear hxl
          go_wp2_with fail
          refine CS.out.mono ?_
          rintro e w3 ⟨rfl, b3⟩
          go_wp2_with fail
          go_ret
          exact ⟨ret_is HF.out, B2.out.trans (b3.mono B2.out.size)⟩
  · have e2 : decide ((0 : Int) < (b : Int)) = false := by simpa using hb
    have e2n : decide (0 < b) = false := by simpa using hb
    have HR := Lib.hid ((HK.out.trans (if_neg (fun h => hb (by omega)))).trans (if_neg (fun h => hb (by omega))))
    by_cases ha : a = 0
    · have e1 : decide ((0 : Int) < (a : Int)) = false := by simp; omega
      have e1n : decide (0 < a) = false := by simp; omega
      have e3 : ((a : Int) == 0) = true := by simpa using ha
      have HF := Lib.hid (HR.out.trans (if_pos ha))
      clear HK HR ha hb
      go_wp2_with fail
      go_ret
      exact ⟨ret_is HF.out, B2.out⟩
    have e1 : decide ((0 : Int) < (a : Int)) = true := by simp; omega
    have e1n : decide (0 < a) = true := by simp; omega
    have e3 : ((a : Int) == 0) = false := by simpa using ha
    by_cases hx0 : xs.length = 0
    · have e4 : ((xs.length : Int) == 0) = true := by simpa using hx0
      have HF := Lib.hid ((HR.out.trans (if_neg ha)).trans (if_pos hx0))
      clear HK HR ha hb hx0
      go_wp2_with fail
      go_ret
      exact ⟨ret_is HF.out, B2.out⟩
    have e4 : ((xs.length : Int) == 0) = false := by simpa using hx0
    have HF := Lib.hid ((HR.out.trans (if_neg ha)).trans (if_neg hx0))
    obtain ⟨p0, x0, hg0, hat0, hc0, hp0⟩ := R3.out.first (c := c1) (by omega)
    obtain ⟨r0, hr0⟩ := nth_zero xs x0 hg0
    have HU := Lib.hid (show R = ((readF 10 x0).2 != 5 && xs.all (sameR x0)) by rw [HF.out, hr0]; exact sureL_is x0 r0)
    have CD := Lib.hid (fun X : World => rdecimal_any ⟨x0.toArray⟩ X (by rw [← bl_length, bl_mk]; have := TX.out x0 (List.mem_of_getElem? hg0); omega))
    rw [bl_mk] at CD
    have HSA := Lib.hid (show ∀ y, sameR x0 y = sameP (readF 10 x0) (readF 10 y) y x0 from fun _ => rfl)
    have HSS := Lib.hid (show (xs.take 1).all (sameR x0) = true by rw [hr0]; simp [sameR_self])
    clear HK HR HF ha hb hg0 hr0
    generalize readF 10 x0 = p at *
    obtain ⟨n0, e0⟩ := p
    unfold RRead at CD
    simp only at CD HU
    obtain ⟨xl, hxl⟩ : ∃ xl : ByteArray, xl = ⟨x0.toArray⟩ := ⟨_, rfl⟩
    have HX := Lib.hid hxl
    rw [← hxl] at hc0 CD
    clear hxl
    cases q5 : ((e0 : Int) == 5) with
    | true =>
      have HF := Lib.hid (show R = false by rw [HU.out, show (e0 != 5) = false by have := eq_of_beq q5; simp; omega]; rfl)
      go_wp2_with fail
      refine (CD.out _).mono ?_
      rintro e w3 ⟨rfl, rfl⟩
      go_wp2_with fail
      go_ret
      exact ⟨ret_is HF.out, B2.out⟩
    | false =>
      have HV := Lib.hid (show R = xs.all (sameR x0) by rw [HU.out, show (e0 != 5) = true by have := ne_of_beq_false q5; simp; omega]; rfl)
      go_wp2_with fail
      refine (CD.out _).mono ?_
      rintro e w3 ⟨rfl, rfl⟩
      go_wp2_with fail
      go_loopw [11] (fun vi wr => ∃ (k : Nat), vi = .int .i64 (k : Int) ∧ 1 ≤ k ∧ k ≤ xs.length ∧ Hid ((xs.take k).all (sameR x0) = true) ∧ Hid (Below w2.heap.size w2 wr)) (fun vi _ => xs.length - (intOf vi).toNat)
      case atStart => exact ⟨1, rfl, Nat.le_refl _, by omega, HSS, Lib.hid (Below.refl _ _)⟩
      case round =>
        obtain ⟨k, rfl, hk1, hk, HA, HB⟩ := hrel
        by_cases hlt : k < xs.length
        · obtain ⟨p1, xk, hgk, hat1, hc1, _, _⟩ := R3.out.at (c := c1) rfl hlt HB.out
          have hc2 := (HB.out.cell (Lib.lt_of_cell hc0)).trans hc0
          have CK := Lib.hid (fun X : World => rdecimal_any ⟨xk.toArray⟩ X (by rw [← bl_length, bl_mk]; have := TX.out xk (List.mem_of_getElem? hgk); omega))
          rw [bl_mk] at CK
          have HN := Lib.hid (show sameR x0 xk = false → R = false from fun h => HV.out.trans (all_noR hgk h))
          have HY := Lib.hid (show sameR x0 xk = true → (xs.take (k + 1)).all (sameR x0) = true from fun h => by rw [take_snoc xs k xk hgk, List.all_append, HA.out]; simp [h])
          rw [HSA.out xk] at HN HY
          clear hgk
          generalize readF 10 xk = pk at *
          obtain ⟨nk, ek⟩ := pk
          unfold RRead at CK
          unfold sameP at HN HY
          simp only at CK HN HY
          obtain ⟨yl, hyl⟩ : ∃ yl : ByteArray, yl = ⟨xk.toArray⟩ := ⟨_, rfl⟩
          have HT := Lib.hid (show (yl.toList == xl.toList) = (xk == x0) by rw [hyl, HX.out, Lib.toList_data, Lib.toList_data])
          rw [← hyl] at hc1 CK
          clear hyl
          cases s1 : ((ek : Int) != (e0 : Int)) with
          | true =>
            have HF := Lib.hid (HN.out (by rw [show (ek == e0) = false by have := bne_iff_ne.1 s1; simp; omega]; rfl))
            go_wp2_with fail
            refine (CK.out _).mono ?_
            rintro e w3 ⟨rfl, rfl⟩
            go_wp2_with fail
            go_ret
            exact ⟨ret_is HF.out, B2.out.trans (HB.out.mono B2.out.size)⟩
          | false =>
            have t1 : (ek == e0) = true := by have := bne_eq_false_iff_eq.1 s1; simp; omega
            cases s2 : ((nk : Int) != (n0 : Int)) with
            | true =>
              have HF := Lib.hid (HN.out (by rw [show (nk == n0) = false by have := bne_iff_ne.1 s2; simp; omega, Bool.and_false]; rfl))
              clear t1
              go_wp2_with fail
              refine (CK.out _).mono ?_
              rintro e w3 ⟨rfl, rfl⟩
              go_wp2_with fail
              go_ret
              exact ⟨ret_is HF.out, B2.out.trans (HB.out.mono B2.out.size)⟩
            | false =>
              have t2 : (nk == n0) = true := by have := bne_eq_false_iff_eq.1 s2; simp; omega
              cases s3 : ((e0 : Int) == 3) with
              | false =>
                have HZ := Lib.hid (HY.out (by rw [t1, t2, show (e0 != 3) = true by have := ne_of_beq_false s3; simp; omega]; rfl))
                clear t1 t2
                go_wp2_with fail
                refine (CK.out _).mono ?_
                rintro e w3 ⟨rfl, rfl⟩
                go_wp2_with fail
                go_quiet (fail)
                go_wp2_with fail
                go_roundw
                case rel => exact ⟨k + 1, by go_num, by omega, hlt, HZ, Lib.hid (below_drewN HB.out _)⟩
                case measure => simp [intOf]; omega
              | true =>
                have t3 : (e0 != 3) = false := by have := eq_of_beq s3; simp; omega
                cases s4 : (yl.toList == xl.toList) with
                | true =>
                  have HZ := Lib.hid (HY.out (by rw [t1, t2, ← HT.out, s4, Bool.or_true]; rfl))
                  clear t1 t2 t3
                  go_wp2_with fail
                  refine (CK.out _).mono ?_
                  rintro e w3 ⟨rfl, rfl⟩
                  go_wp2_with fail
                  go_quiet (fail)
                  go_wp2_with fail
                  go_roundw
                  case rel => exact ⟨k + 1, by go_num, by omega, hlt, HZ, Lib.hid (below_drewN HB.out _)⟩
                  case measure => simp [intOf]; omega
                | false =>
                  have HF := Lib.hid (HN.out (by rw [t1, t2, t3, ← HT.out, s4]; rfl))
                  clear t1 t2 t3
                  go_wp2_with fail
                  refine (CK.out _).mono ?_
                  rintro e w3 ⟨rfl, rfl⟩
                  go_wp2_with fail
                  go_quiet (fail)
                  go_wp2_with fail
                  go_ret
                  exact ⟨ret_is HF.out, below_drewN (B2.out.trans (HB.out.mono B2.out.size)) _⟩
        · have HF := Lib.hid (show R = true by
            have := HA.out
            rw [List.take_of_length_le (by omega)] at this
            rw [HV.out, this])
          go_wp2_with fail
          go_ret
          exact ⟨ret_is HF.out, B2.out.trans (HB.out.mono B2.out.size)⟩
end Go.Proofs.YtemgfppclakdmaaGreatDoor

namespace Go.Proofs.YtemgfppclakdmaaGreatDoor
open Go.RowKit

/-- The kind of a body whose lengths are sure. -/
def kindL : List (List UInt8) → Kd
  | [] => (0, 0, 0)
  | x :: _ => if (readF 10 x).2 ≠ 0 ∨ 4096 < (readF 10 x).1 then (0, 0, 21) else (1, (readF 10 x).1, 0)
def bodyK (b : Nat) (xs : List (List UInt8)) : Kd := if b ≠ 0 then (2, 0, 0) else kindL xs
theorem len_kind (xs : List (List UInt8)) : lenF xs = if xs.length = 0 then (0, 0, 22) else if sureL xs = false then (0, 0, 22) else kindL xs := by
  unfold lenF
  cases xs with
  | nil => rfl
  | cons x r =>
    by_cases h : sureL (x :: r) = false
    · rw [if_pos (.inr h), if_neg (by simp), if_pos h]
    · rw [if_neg (fun k => k.elim (fun k => by simp at k) h), if_neg (fun k : (x :: r).length = 0 => by simp at k), if_neg h]
      rw [sureL_is] at h
      have h5 : (readF 10 x).2 ≠ 5 := by
        intro h5
        rw [h5] at h
        simp at h
      show (if (rdF x).2.2 = 3 ∨ 4096 < (rdF x).1 then _ else _) = if (readF 10 x).2 ≠ 0 ∨ 4096 < (readF 10 x).1 then _ else _
      rcases readF_cases x with hx | hx | ⟨n, hn, hx⟩
      · rw [hx] at h5; simp at h5
      · simp [rdF, hx]
      · simp [rdF, hx, firstF]
theorem req_core (minor : Int) (a b : Nat) (xs cs : List (List UInt8)) (hx : a = 0 → xs = []) : (if a ≠ 0 ∧ b ≠ 0 then ((0, 0, 22) : Kd) else if b ≠ 0 then codF minor cs else if a ≠ 0 then lenF xs else (0, 0, 0)) = if sureK minor a b xs cs = false then (0, 0, 22) else bodyK b xs := by
  unfold sureK bodyK
  by_cases ha : a = 0
  · subst ha
    obtain rfl := hx rfl
    by_cases hb : b = 0
    · subst hb; simp [kindL]
    · simp only [ne_eq, not_true_eq_false, false_and, if_false, hb, not_false_eq_true, if_true]
      unfold codF
      by_cases h : cs.length = 1 ∧ minor = 1 ∧ cs.all isChk = true
      · rw [if_pos h, if_neg (by rw [decide_eq_true ⟨h.2.1, h.1, h.2.2⟩]; simp)]
      · rw [if_neg h, if_pos (decide_eq_false (fun k => h ⟨k.2.1, k.1, k.2.2⟩))]
  · by_cases hb : b = 0
    · subst hb
      simp only [ne_eq, ha, not_false_eq_true, not_true_eq_false, and_false, if_false, if_true, len_kind]
      by_cases hl : xs.length = 0 <;> simp [hl]
    · simp [ha, hb]
theorem reqK_sure (minor : Int) (ls : List Fld) : reqK minor ls = if minor ≠ 0 ∧ minor ≠ 1 then (0, 0, 1) else if sureK minor (getF ls lenN).length (getF ls codN).length (elsF (getF ls lenN)) (elsF (getF ls codN)) = false then (0, 0, 22) else bodyK (getF ls codN).length (elsF (getF ls lenN)) := by
  unfold reqK
  split
  · rfl
  · have e : ∀ l : List (List UInt8), (l ≠ []) = (l.length ≠ 0) := fun l => by simp
    simp only [e]
    exact req_core _ _ _ _ _ (fun h => by rw [List.eq_nil_of_length_eq_zero h]; rfl)

/-- The word of what a list of fields asks of the reference. -/
structure Meek (ls : List Fld) : Prop where
  fit : Fit ls
  thin : Thin ls
  tx : SlimS (elsF (getF ls lenN))
  tc : SlimS (elsF (getF ls codN))

set_option maxHeartbeats 4000000 in
set_option maxRecDepth 100000 in
theorem rbody_any {P : Nat → Prop} (w : World) (A : Option Addr) (ls : List Fld) (n c : Nat) (hn : ls.length = n) (h : SrcF w P A ls) (hm : Meek ls) :
    Calls Tryz.prog 64 #[.slice A n c] w (Tells (bodyK (getF ls codN).length (elsF (getF ls lenN))) w) := by
  have C1 := Lib.hid (elements_any w A ls n c hn (by have := hm.fit.few; omega) h hm.thin ⟨#[116, 114, 97, 110, 115, 102, 101, 114, 45, 101, 110, 99, 111, 100, 105, 110, 103]⟩ (by decide) hm.fit.cods)
  have C2 := Lib.hid (fun (X : World) (hX : Below w.heap.size w X) => elements_any X A ls n c hn (by have := hm.fit.few; omega) (h.below hX) hm.thin ⟨#[99, 111, 110, 116, 101, 110, 116, 45, 108, 101, 110, 103, 116, 104]⟩ (by decide) hm.fit.lens)
  rw [bl_cod] at C1
  rw [bl_len] at C2
  have TX := Lib.hid hm.tx
  clear hn h hm
  generalize (getF ls codN).length = b at *
  generalize elsF (getF ls lenN) = xs at *
  generalize elsF (getF ls codN) = cs at *
  go_enter Tryz.func64, Tryz.ntmps64
  go_wp2_with fail
  refine C1.out.mono ?_
  rintro e w1 ⟨v1, o1, rfl, own1, ho1, b1⟩
  have B1 := Lib.hid b1
  have C3 := Lib.hid (C2.out w1 b1)
  clear own1 ho1 b1 C1 C2
  by_cases hb : 0 < b
  · have e2 : decide ((0 : Int) < (b : Int)) = true := by simpa using hb
    have e2n : decide (0 < b) = true := by simpa using hb
    have HR := Lib.hid (show bodyK b xs = (2, 0, 0) from if_pos (by omega))
    clear hb C3
    go_wp2_with fail
    go_ret3
    exact ⟨tells3 (by rw [HR.out]; exact ⟨rfl, rfl, rfl⟩), B1.out⟩
  · have e2 : decide ((0 : Int) < (b : Int)) = false := by simpa using hb
    have e2n : decide (0 < b) = false := by simpa using hb
    have HR := Lib.hid (show bodyK b xs = kindL xs from if_neg (by omega))
    clear hb
    go_wp2_with fail
    refine C3.out.mono ?_
    rintro e w2 ⟨v2, o2, rfl, own2, ho2, b2⟩
    have B2 := Lib.hid (B1.out.trans (b2.mono B1.out.size))
    obtain ⟨A2, c2, hv2, src2⟩ := own2.src (fun _ => True) (fun _ _ => trivial)
    subst hv2
    have R2 := Lib.hid src2
    clear own2 ho2 b2 src2 C3
    by_cases hl : xs.length = 0
    · have e3 : ((xs.length : Int) == 0) = true := by simpa using hl
      have HQ := Lib.hid (show kindL xs = (0, 0, 0) by have : xs = [] := by simpa using hl
                                                       rw [this]; rfl)
      clear hl
      go_wp2_with fail
      go_ret3
      exact ⟨tells3 (by rw [HR.out, HQ.out]; exact ⟨rfl, rfl, rfl⟩), B2.out⟩
    · have e3 : ((xs.length : Int) == 0) = false := beq_eq_false_iff_ne.2 (by omega)
      obtain ⟨p0, x0, hg0, hat0, hc0, hb0⟩ := R2.out.first (c := c2) (by omega)
      obtain ⟨r, hr0⟩ := nth_zero xs x0 hg0
      have HQ := Lib.hid (show kindL xs = if (readF 10 x0).2 ≠ 0 ∨ 4096 < (readF 10 x0).1 then (0, 0, 21) else (1, (readF 10 x0).1, 0) by rw [hr0]; rfl)
      have CD := Lib.hid (fun X : World => rdecimal_any ⟨x0.toArray⟩ X (by rw [← bl_length, bl_mk]; have := TX.out x0 (List.mem_of_getElem? hg0); omega))
      rw [bl_mk] at CD
      clear hl hr0 hg0
      generalize readF 10 x0 = p at *
      obtain ⟨m, f⟩ := p
      unfold RRead at CD
      simp only at CD HQ
      by_cases hf : f = 0
      · have e4 : ((f : Int) != 0) = false := by subst hf; rfl
        by_cases hbig : 4096 < m
        · have e5 : decide ((4096 : Int) < (m : Int)) = true := by simp; omega
          have e5n : decide (4096 < m) = true := by simpa using hbig
          have HF := Lib.hid (HQ.out.trans (if_pos (.inr hbig)))
          clear hf hbig
          go_wp2_with fail
          refine (CD.out _).mono ?_
          rintro e w3 ⟨rfl, rfl⟩
          go_wp2_with fail
          go_ret3
          exact ⟨tells3 (by rw [HR.out, HF.out]; exact ⟨rfl, rfl, rfl⟩), by first | exact B2.out | exact below_drewN B2.out _⟩
        · have e5 : decide ((4096 : Int) < (m : Int)) = false := by simp; omega
          have e5n : decide (4096 < m) = false := by simpa using hbig
          have HF := Lib.hid (HQ.out.trans (if_neg (by omega)))
          clear hf hbig
          go_wp2_with fail
          refine (CD.out _).mono ?_
          rintro e w3 ⟨rfl, rfl⟩
          go_wp2_with fail
          go_ret3
          exact ⟨tells3 (by rw [HR.out, HF.out]; exact ⟨rfl, rfl, rfl⟩), by first | exact B2.out | exact below_drewN B2.out _⟩
      · have e4 : ((f : Int) != 0) = true := by simp; omega
        have HF := Lib.hid (HQ.out.trans (if_pos (.inl hf)))
        clear hf
        go_wp2_with fail
        refine (CD.out _).mono ?_
        rintro e w3 ⟨rfl, rfl⟩
        go_wp2_with fail
        go_ret3
        exact ⟨tells3 (by rw [HR.out, HF.out]; exact ⟨rfl, rfl, rfl⟩), by first | exact B2.out | exact below_drewN B2.out _⟩
end Go.Proofs.YtemgfppclakdmaaGreatDoor
