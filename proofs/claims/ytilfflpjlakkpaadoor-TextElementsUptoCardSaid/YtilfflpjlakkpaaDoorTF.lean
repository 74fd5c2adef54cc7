/-
  What the law TextElements answers, as a call.
  Conditions: those that the theorem names.
-/
import Derived.Test.YtilfflpjlakkpaaDoorTE
namespace Go.Proofs.YtilfflpjlakkpaaDoor
open Go.RowKit

/-- What List answers, its outer form written out. -/
def ListsV (ls : List (List UInt8)) (w : World) (e : Ending) (w' : World) : Prop :=
  ∃ A c o, e = .returned (.slice A ls.length c) ∧ OwnS w' (.slice A ls.length c) o ls ∧ (∀ b, o = some b → w.heap.size ≤ b) ∧ SrcS w' (fun _ => True) A ls ∧ Below w.heap.size w w'
theorem Lists.v {ls : List (List UInt8)} {w w' : World} {e : Ending} (h : Lists ls w e w') : ListsV ls w e w' := by
  obtain ⟨v, o, rfl, h1, h2, h3⟩ := h
  obtain ⟨A, c, rfl, h4⟩ := h1.src (fun _ => True) (fun _ _ => trivial)
  exact ⟨A, c, o, rfl, h1, h2, h4, h3⟩

/-- An append of other types whose run is known, at its place in a walk. -/
theorem append_by2 {P : Program} {w : World} {ops : Array Oper} {rest : List Oper} {o : Oper} {a : Act} {Q : Exit → Act → World → Prop} (hgd : o.guard = none) (s x : Operand) (t u : TypeId)
    (ho : o.op = .call { callee := .builtin .append, args := #[s, x], argTypes := #[t, u] }) (v xv v' : Value) (w' : World) (hs : a.eval s = v) (hx : a.eval x = xv)
    (hrun : (Builtin.append_ #[t, u] o.type #[v, xv]).run P w = .ok v' w') (h : wpList P ops Q rest (a.put o.dst v') w') : wpList P ops Q (o :: rest) a w := by
  refine wpList_plain hgd fun K hK => ?_
  unfold Oper.wp execOp
  simp only [ho, resolve, invoke, builtin, Sem.run_bind, Sem.run_pure, Result.andThen_ok, List.map_toArray, List.map_cons, List.map_nil, hs, hx, hrun]
  exact hK _ _ h

def ElRel (w1 : World) (ls : List (List UInt8)) (vb i : Value) (wx : World) : Prop :=
  ∃ (k : Nat) (ob : Option Nat), k ≤ ls.length ∧ i = .int .i64 (k : Int) ∧ Own wx vb ob (joinTo ls k) ∧ (∀ b, ob = some b → w1.heap.size ≤ b) ∧ Below w1.heap.size w1 wx

theorem le_sum_of_mem : ∀ {l : List Nat} {x : Nat}, x ∈ l → x ≤ l.sum
  | y :: l, x, h => by
    rcases List.mem_cons.1 h with rfl | h
    · simp
    · have := le_sum_of_mem h
      simp
      omega

def plainB (c : UInt8) : Bool := c != 34 && c != 92
def plainTo (s : ByteArray) (k : Nat) : List UInt8 := ((bl s).take k).filter plainB
theorem plainTo_length (s : ByteArray) (k : Nat) : (plainTo s k).length ≤ k := by
  have := List.length_filter_le plainB ((bl s).take k)
  unfold plainTo
  rw [List.length_take] at this
  omega
theorem plainTo_succ (s : ByteArray) (k : Nat) (h : k < s.size) : plainTo s (k + 1) = plainTo s k ++ if plainB s[k] then [s[k]] else [] := by
  unfold plainTo
  rw [bl_take s k h, List.filter_append]
  congr 1
  by_cases hp : plainB s[k] = true <;> simp [hp]
theorem plainTo_free (s : ByteArray) (k : Nat) : ∀ c ∈ plainTo s k, c ≠ 34 := by
  intro c hc e
  have := (List.mem_filter.1 hc).2
  subst e
  simp [plainB] at this
theorem plainB_yes (c : UInt8) (h : (c.toNat : Int) ≠ 34) (h' : (c.toNat : Int) ≠ 92) : plainB c = true := by
  have h1 : c ≠ 34 := fun e => h (by rw [e]; rfl)
  have h2 : c ≠ 92 := fun e => h' (by rw [e]; rfl)
  simp [plainB, h1, h2]
theorem plainB_no (c : UInt8) (h : (c.toNat : Int) = 34 ∨ (c.toNat : Int) = 92) : plainB c = false := by
  rcases h with h | h
  · have : c = 34 := (u8_eq c 34 (by omega)).2 h
    subst this; rfl
  · have : c = 92 := (u8_eq c 92 (by omega)).2 h
    subst this; rfl

/-- append(v, l...), both slices of texts. -/
theorem run_append_strs {P : Nat → Prop} (w : World) (v : Value) (o : Option Nat) (ls news : List (List UInt8)) (h : OwnS w v o ls) (A : Option Addr) (n c : Nat) (hn : news.length = n) (hs : SrcS w P A news) (hlen : ls.length + news.length ≤ 1000000000000) :
    ∃ (v' : Value) (w' : World) (o' : Option Nat), (Builtin.append_ #[27, 27] 27 #[v, .slice A n c]).run Tryd.prog w = .ok v' w' ∧ OwnS w' v' o' (ls ++ news) ∧ Turn (fun k => o = some k) w w' ∧ (o' = o ∨ o' = some w.heap.size) := by
  subst hn
  obtain ⟨i, hi, hz, hsz, hby⟩ := strParts
  obtain ⟨hown, ho⟩ := h
  cases A with
  | none =>
    have hb : news = [] := by
      cases news with
      | nil => rfl
      | cons b l => obtain ⟨ad, hA, _⟩ := hs (by simp); cases hA
    subst hb
    refine ⟨v, w, o, ?_, by rw [List.append_nil]; exact ⟨hown, ho⟩, Turn.refl _ _, .inl rfl⟩
    rcases hown.2 with ⟨rfl, _⟩ | ⟨g, cap, cur, rfl, _, _, hnc, _⟩
    · simp [Builtin.append_, run_underlying Tryd.underlying27, sizeOf, typeInfo, hi, Builtin.lenOf, Builtin.firstCells]
    · simp [Builtin.append_, run_underlying Tryd.underlying27, sizeOf, typeInfo, hi, Builtin.lenOf, Builtin.firstCells, hnc, storeCells]
  | some a =>
    have hcells : ∀ j u, (strs news)[j]? = some u → w.cell? (a.add j) = some u := by
      intro j u hu
      have hj : j < news.length := by
        have := (List.getElem?_eq_some_iff.1 hu).1
        rwa [strs_length] at this
      obtain ⟨ad, hA, _, _, hc⟩ := hs (by omega)
      injection hA with hA
      subst hA
      rw [hc j _ (List.getElem?_eq_getElem hj)]
      simpa [strs, hj] using hu
    obtain ⟨v', w', hrun, h2, h3, _, h5⟩ := run_append_own_at (P := Tryd.prog) w 0 27 27 9 i (.string ⟨#[]⟩) 1 16 Tryd.underlying27 hi hz hsz hby rfl (by omega) v ls.length (strs ls) hown a news.length c (strs news)
      (by rw [strs_length, Nat.mul_one]) hcells (strs_one _) (by simp only [maxLen]; omega) (by omega) (Nat.zero_le _)
    refine ⟨v', w', v'.ownBlock, hrun, ⟨?_, rfl⟩, Turn.of_grown h3 (fun k hk => by rw [← ho]; exact hk), by rw [← ho]; exact h5⟩
    rw [List.length_append, strs, List.map_append]
    exact h2

set_option maxRecDepth 100000 in
set_option maxHeartbeats 8000000 in
theorem elements_true (s : ByteArray) (t : List UInt8) (w : World) (hs : s.size ≤ 100000000) (ht : t.length ≤ 100000000) : Calls Tryd.prog 7 #[.string s, .string ⟨t.toArray⟩] w fun e w' => e = .returned (.bool true) ∧ Below w.heap.size w w' := by
  have CL := Lib.hid ((tx_list s w (by omega)).mono fun e w' h => h.v)
  obtain ⟨l, hbl⟩ : ∃ l, bl s = l := ⟨_, rfl⟩
  have hl : l.length = s.size := by rw [← hbl, bl_length]
  rw [hbl] at CL
  have HBL := Lib.hid hbl
  clear hbl
  have HBA := Lib.hid (show ∀ x ∈ listF l, x ≠ [] ∧ trimF x = x by rw [listF_eq]; exact elems_bare _)
  have HJ := Lib.hid (list_join l)
  have hln := listF_length l
  have HJL := Lib.hid (joinTo_length l)
  have HTOT := Lib.hid (list_total l)
  generalize listF l = ls at *
  go_enter Tryd.func7, Tryd.ntmps7
  go_wp2_with fail
  refine CL.out.mono ?_
  rintro e w1 ⟨A, c, o1, rfl, own1, ho1, src1, b1⟩
  clear ho1
  go_wp2_with fail
  go_loopw [6, 7] (fun vb i wx => ElRel w1 ls vb i wx) (fun _ i _ => ls.length - (intOf i).toNat)
  case atStart => exact ⟨0, none, Nat.zero_le _, rfl, Own.nil _, (fun _ h => by cases h), Below.refl _ _⟩
  case round =>
    obtain ⟨k, ob, hk, rfl, hown, hob, hB⟩ := hrel
    have HOB := Lib.hid hob
    clear hob
    have hjk := HJL.out k
    by_cases hlt : k < ls.length
    · obtain ⟨ad, hA, _, hab, hc⟩ := src1 (by omega)
      obtain ⟨x, hx⟩ : ∃ x, ls[k]? = some x := ⟨ls[k], List.getElem?_eq_getElem hlt⟩
      have hxm : x ∈ ls := List.mem_of_getElem? hx
      obtain ⟨hx0, hxt⟩ := HBA.out x hxm
      have hxl : x.length ≤ l.length := by
        have := HTOT.out
        have h2 : x.length ≤ (ls.map List.length).sum := le_sum_of_mem (List.mem_map.2 ⟨x, hxm, rfl⟩)
        omega
      have hat := fun Wx => run_at 27 9 Tryd.underlying27 strSize ad ls.length c k hlt Wx
      rw [← hA] at hat
      have hpb : (ad.add k).block < w1.heap.size := by unfold Addr.add; split <;> exact hab
      have y0 : wr.cell? (ad.add k) = some (.string ⟨x.toArray⟩) := (hB.cell hpb).trans (hc k x hx)
      generalize ad.add k = p at *
      have HS := Lib.hid (joinTo_succ ls k x hx)
      have HX := Lib.hid hx
      have HXT := Lib.hid hxt
      clear hA hc hab hx hxt hxm
      have hsz := hB.size
      have CTR := Lib.hid (fun (X : World) (hX : Quiet wr X) => (z_trim x X (by omega)).mono (fun e w' h => (⟨by rw [h.1, HXT.out], (hX.turn.below (fun _ _ h => h)).trans (h.2.mono (by rw [hX.size]; exact Nat.le_refl _))⟩ : e = .returned (.string ⟨x.toArray⟩) ∧ Below wr.heap.size wr w')))
      have step : ∀ (w5 : World) (ob' : Option Nat) (bs : List UInt8) (v5 : Value), Own w5 v5 ob' bs → (∀ b, ob' = some b → w1.heap.size ≤ b) → Below w1.heap.size w1 w5 → bs.length ≤ 2 * l.length + 2 → bs ++ x = joinTo ls (k + 1) →
          ∃ v' w' o', (Builtin.append_ #[33, 9] 33 #[v5, .string ⟨x.toArray⟩]).run Tryd.prog w5 = .ok v' w' ∧ ElRel w1 ls v' (.int .i64 ((k : Int) + 1)) w' ∧ o' = ob' := by
        intro w5 ob' bs v5 h1 h2 h3 h4 h5
        obtain ⟨v', w', o', hrun, own', t', ho'⟩ := run_append_text w1.heap.size w5 v5 ob' bs x h1 h2 h3.size (by omega)
        rw [h5] at own'
        exact ⟨v', w', ob', hrun, ⟨k + 1, o', hlt, by simp, own', ho', h3.trans ⟨t'.os, t'.tape, t'.output, t'.size, fun b hb => t'.block b (by have := h3.size; omega) (fun h => by have := h2 b h; omega)⟩⟩, rfl⟩
      have STEP := Lib.hid step
      clear step
      cases x with
      | nil => exact absurd rfl hx0
      | cons x0 xr =>
        clear hx0
        go_wp2_with fail
        go_region_held3 (fun w' => w'.cell? p = some (.string ⟨(x0 :: xr).toArray⟩)) (first | exact y0 | exact y1 | go_keep)
          (first
            | (go_at_call 14; refine (CTR.out _ ⟨_, rfl⟩).mono ?_; rintro e w5 ⟨rfl, b5⟩; have y1 : w5.cell? p = some (.string ⟨(x0 :: xr).toArray⟩) := (b5.cell (Nat.lt_of_lt_of_le hpb hsz)).trans y0))
        have own5 : Own w5 u6 ob (joinTo ls k) := hown.kept (Turn.of_below (S := fun _ => False) b5) (fun _ _ h => h)
        have B5 : Below w1.heap.size w1 w5 := hB.trans (b5.mono hsz)
        have p5 : p.block < w5.heap.size := Nat.lt_of_lt_of_le hpb B5.size
        by_cases hk0 : ¬ 0 < k
        · obtain ⟨v', w', o', hrun, rel, _⟩ := STEP.out w5 ob (joinTo ls k) u6 own5 HOB.out B5 (by omega) (by
            have hz : k = 0 := by omega
            rw [HS.out, if_pos hz, hz]; simp [joinTo, joinF])
          have HR := Lib.hid hrun
          clear hrun y0
          go_wp2_with (at_builtin; refine append_by2 rfl (.tmp 43) (.tmp 47) 33 9 rfl _ _ v' w' rfl rfl HR.out ?_)
          exact ⟨rel, by simp [intOf]; omega⟩
        · obtain ⟨v6, w6, o6, hrun6, own6, t6, ho6⟩ := run_push1 w5 u6 ob _ 44 44 rfl own5 (by omega)
          have hno : ¬ ob = some p.block := fun h => by have := HOB.out _ h; omega
          have y6 : w6.cell? p = some (.string ⟨(x0 :: xr).toArray⟩) := (t6.cell p5 hno).trans y1
          have B6 : Below w1.heap.size w1 w6 := B5.trans ⟨t6.os, t6.tape, t6.output, t6.size, fun b hb => t6.block b (by have := B5.size; omega) (fun h => by have := HOB.out b h; omega)⟩
          obtain ⟨v', w', o', hrun, rel, _⟩ := STEP.out w6 o6 _ v6 own6 (fun b hb => by
            rcases ho6 b hb with h | h
            · exact HOB.out b h
            · exact Nat.le_trans B5.size h) B6 (by simp; omega) (by rw [HS.out, if_neg (by omega)])
          have HR6 := Lib.hid hrun6
          have HR := Lib.hid hrun
          clear hrun hrun6 y0 ho6
          go_wp2_with (first | (at_builtin; refine append_by rfl (.tmp 40) (.tmp 41) 33 rfl _ _ v6 w6 rfl rfl HR6.out ?_) | (at_builtin; refine append_by2 rfl (.tmp 43) (.tmp 47) 33 9 rfl _ _ v' w' rfl rfl HR.out ?_))
          exact ⟨rel, by simp [intOf]; omega⟩
    · have hkl : k = ls.length := by omega
      subst hkl
      have hj : joinTo ls ls.length = joinF ls := by simp [joinTo]
      rw [hj] at hown hjk
      have hr := run_made_text wr u6 ob _ hown
      have hah := list_ahead (joinF ls)
      rw [HJ.out] at hah
      have HAH := Lib.hid hah
      have HJ' := HJ
      clear hah hj HJ
      generalize joinF ls = J at *
      have CJ := Lib.hid ((z_list J wr (by omega)).mono fun e w' h => h.v)
      rw [HJ'.out] at CJ
      have CA := Lib.hid (fun X : World => (z_list ([32, 44, 9, 44] ++ J) X (by simp; omega)).mono fun e w' h => h.v)
      rw [HAH.out] at CA
      have eA := mk_append #[32, 44, 9, 44] J
      have ownr := own1.kept (Turn.of_below (S := fun _ => False) hB) (fun _ _ h => h)
      clear own1 src1
      go_wp2_with fail
      refine CJ.out.mono ?_
      rintro e w2 ⟨A2, c2, o2, rfl, own2, -, src2, b2⟩
      have ownr2 := ownr.kept (Turn.of_below (S := fun _ => False) b2) (fun _ _ h => h)
      have C2 := Lib.hid (equal_owned w2 _ _ o2 o1 _ _ own2 ownr2 (by omega))
      clear ownr own2 src2
      go_wp2_with fail
      refine C2.out.mono ?_
      rintro e w3 ⟨rfl, q3⟩
      have b3 : Below w2.heap.size w2 w3 := q3.turn.below (fun _ _ h => h)
      have own3 := ownr2.kept (Turn.of_below (S := fun _ => False) b3) (fun _ _ h => h)
      clear ownr2
      have et : (ls == ls) = true := by simp
      rw [et]
      go_wp2_with fail
      refine (CA.out w3).mono ?_
      rintro e w4 ⟨A4, c4, o4, rfl, own4, -, src4, b4⟩
      have ownr4 := own3.kept (Turn.of_below (S := fun _ => False) b4) (fun _ _ h => h)
      have C4 := Lib.hid (equal_owned w4 _ _ o4 o1 _ _ own4 ownr4 (by omega))
      clear own3 own4 src4 ownr4
      go_wp2_with fail
      refine C4.out.mono ?_
      rintro e w5 ⟨rfl, q5⟩
      have b5 : Below w4.heap.size w4 w5 := q5.turn.below (fun _ _ h => h)
      rw [et]
      have B5 : Below w.heap.size w w5 := Below.more b1 (Below.more hB (Below.more b2 (Below.more b3 (Below.more b4 b5))))
      clear b1 hB b2 b3 b4 b5
      go_wp2_with fail
      go_loopw [9, 10] (fun v i wx => BuildRel w5 s.size (plainTo s) v i wx) (fun _ i _ => s.size - (intOf i).toNat)
      case atStart => exact ⟨0, none, Nat.zero_le _, rfl, Own.nil _, (fun _ h => by cases h), Below.refl _ _⟩
      case round =>
        clear hown hr q3 q5 hjk
        obtain ⟨k, o, hk, hki, hown, ho, hB⟩ := hrel
        subst hki
        have HO := Lib.hid ho
        clear ho
        have hlen := plainTo_length s k
        by_cases hlt : k < s.size
        · have HS := Lib.hid (plainTo_succ s k hlt)
          by_cases hq : (s[k].toNat : Int) = 34 ∨ (s[k].toNat : Int) = 92
          · have HN : plainTo s (k + 1) = plainTo s k := by rw [HS.out, plainB_no _ hq]; simp
            rw [← HN] at hown
            have rel : BuildRel w5 s.size (plainTo s) u9 (.int .i64 ((k : Int) + 1)) wr := ⟨k + 1, o, hlt, by simp, hown, HO.out, hB⟩
            have HQ := Lib.hid hq
            clear hq HN
            rcases HQ.out with h | h
            · have e1 : ((s[k].toNat : Int) != 34) = false := by simpa using h
              clear h
              go_wp2_with fail
              exact ⟨rel, by simp [intOf]; omega⟩
            · have e1 : ((s[k].toNat : Int) != 34) = true := by simp; omega
              have e2 : ((s[k].toNat : Int) != 92) = false := by simpa using h
              clear h
              go_wp2_with fail
              exact ⟨rel, by simp [intOf]; omega⟩
          · have e1 : ((s[k].toNat : Int) != 34) = true := by simp; omega
            have e2 : ((s[k].toNat : Int) != 92) = true := by simp; omega
            obtain ⟨v2, w2', o2', hrun2, own2, t2, ho2⟩ := run_push1 wr u9 o _ s[k] _ rfl hown (by omega)
            have HN : plainTo s (k + 1) = plainTo s k ++ [s[k]] := by rw [HS.out, plainB_yes _ (by omega) (by omega)]; simp
            rw [← HN] at own2
            have HR2 := Lib.hid hrun2
            have HO3 := Lib.hid ho2
            clear hrun2 ho2 hq HN
            go_wp2_with (at_builtin; refine append_by rfl (.tmp 80) (.tmp 84) 33 rfl _ _ v2 w2' rfl rfl HR2.out ?_)
            exact ⟨BuildRel.step hlt own2 HO.out hB t2 HO3.out _ rfl, by simp [intOf]; omega⟩
        · have hkl : k = s.size := by omega
          subst hkl
          have hpr := run_made_text wr u9 o _ hown
          have HPF := Lib.hid (list_both (plainTo s s.size) t (plainTo_free s s.size))
          clear hown
          generalize plainTo s s.size = pl at *
          have CP := Lib.hid ((z_list pl wr (by omega)).mono fun e w' h => h.v)
          have CT := Lib.hid (fun X => (z_list t X (by omega)).mono fun e w' h => h.v)
          have hcb : bl (⟨pl.toArray⟩ ++ ⟨#[44]⟩ ++ ⟨t.toArray⟩) = pl ++ 44 :: t := by
            rw [bl_append, bl_append, bl_mk, bl_mk]
            simp [bl]
          have CB := Lib.hid (fun X : World => (tx_list (⟨pl.toArray⟩ ++ ⟨#[44]⟩ ++ ⟨t.toArray⟩) X (by rw [← bl_length, hcb]; simp; omega)).mono fun e w' h => h.v)
          rw [hcb, HPF.out] at CB
          clear hcb
          have hlp := listF_length pl
          have hlt' := listF_length t
          generalize listF pl = lp at *
          generalize listF t = lt at *
          obtain ⟨lb, hlb⟩ : ∃ lb, lb = lp ++ lt := ⟨_, rfl⟩
          have hlbl : lb.length ≤ 300000000 := by rw [hlb]; simp; omega
          rw [← hlb] at CB
          have HLB := Lib.hid hlb
          clear hlb
          go_wp2_with fail
          refine CP.out.mono ?_
          rintro e w6 ⟨A6, c6, o6, rfl, own6, ho6, -, b6⟩
          go_wp2_with fail
          refine (CT.out _).mono ?_
          rintro e w7 ⟨A7, c7, o7, rfl, own7, -, src7, b7⟩
          have own6' := own6.kept (Turn.of_below (S := fun _ => False) b7) (fun _ _ h => h)
          obtain ⟨v8, w8, o8, hrun8, own8, t8, ho8⟩ := run_append_strs w7 _ o6 lp lt own6' A7 _ c7 rfl src7 (by omega)
          rw [← HLB.out] at own8
          have HR8 := Lib.hid hrun8
          clear hrun8
          go_wp2_with (at_builtin; refine append_by rfl (.tmp 89) (.tmp 91) 27 rfl _ _ v8 w8 rfl rfl HR8.out ?_)
          refine (CB.out _).mono ?_
          rintro e w9 ⟨A9, c9, o9, rfl, own9, -, -, b9⟩
          have own8' := own8.kept (Turn.of_below (S := fun _ => False) b9) (fun _ _ h => h)
          have C9 := Lib.hid (equal_owned w9 _ _ o9 o8 _ _ own9 own8' (by omega))
          have b8 : Below w6.heap.size w6 w7 := b7
          have B8 : Below wr.heap.size wr w8 := (Below.more b6 b7).trans ⟨t8.os, t8.tape, t8.output, t8.size, fun b hb => t8.block b (by have := (Below.more b6 b7).size; omega) (fun h => by have := ho6 b h; omega)⟩
          clear b8 own6 own6' own7 src7 own8 own8' own9 t8 ho8 ho6 b6 b7
          go_wp2_with fail
          refine C9.out.mono ?_
          rintro e w10 ⟨rfl, q10⟩
          have b10 : Below w9.heap.size w9 w10 := q10.turn.below (fun _ _ h => h)
          have et2 : (lb == lb) = true := by simp
          rw [et2]
          go_wp2_with fail
          refine (wakes_true w10).mono ?_
          rintro e w11 ⟨rfl, b11⟩
          go_wp2_with fail
          go_ret
          exact ⟨rfl, Below.more B5 (Below.more hB (Below.more B8 (Below.more b9 (Below.more b10 b11))))⟩
end Go.Proofs.YtilfflpjlakkpaaDoor
