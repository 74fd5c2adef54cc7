/-
  Package head's keep and Get.
  Conditions: those that each theorem names.
-/
import Derived.Test.YtdcbcjljmjnopaaGreatDoorWords
import Derived.Scope
import Derived.WalkMore
import Derived.ScopeJumps
import Derived.Test.YtdcbcjljmjnopaaGreatDoorHE
import Derived.Test.YtdcbcjljmjnopaaGreatDoorUD
namespace Go.Proofs.YtdcbcjljmjnopaaGreatDoor
open Go.RowKit

/-- As Q; by a goto to label l: J l. -/
def jumpTo (J : Nat → Act → World → Prop) (Q : Exit → Act → World → Prop) : Exit → Act → World → Prop
  | .goto l, a, w => J l a w
  | e, a, w => Q e a w

/-- An append whose run is known, at a step of a region that draws its order. -/
theorem step_append_by {P : Program} {w : World} {ops : Array Oper} {o : Oper} {a : Act} {K : Act → World → Prop} {Q : Exit → Act → World → Prop} {E : Prop} (hgd : o.guard = none) (s x : Operand) (t : TypeId)
    (ho : o.op = .call { callee := .builtin .append, args := #[s, x], argTypes := #[t, t] }) (v xv v' : Value) (w' : World) (hs : a.eval s = v) (hx : a.eval x = xv)
    (hrun : (Builtin.append_ #[t, t] o.type #[v, xv]).run P w = .ok v' w') (h : K (a.put o.dst v') w') : if Region.wanted o (yielded ops a.tmps) = true then Oper.wp P o a w K Q else E := by
  have hw : Region.wanted o (yielded ops a.tmps) = true := by simp [Region.wanted, hgd]
  rw [if_pos hw]
  unfold Oper.wp execOp
  simp only [ho, resolve, invoke, builtin, Sem.run_bind, Sem.run_pure, Result.andThen_ok, List.map_toArray, List.map_cons, List.map_nil, hs, hx, hrun]
  exact h

section
variable {P : Program} {a : Act} {w : World} {Q : Exit → Act → World → Prop} {J : Nat → Act → World → Prop}
theorem jumpTo_goto (l : Nat) : jumpTo J Q (.goto l) a w = J l a w := rfl
theorem jumpTo_ret : jumpTo J Q .ret a w = Q .ret a w := rfl
theorem jumpTo_normal : jumpTo J Q .normal a w = Q .normal a w := rfl

/-- Several labels; J says what holds at a jump to each one, and how much is left. -/
theorem wp_scope_labels {c : Code} (J : Nat → Nat → Act → World → Prop) (first : c.wp P (jumpTo (fun l a w => ∃ m, J l m a w) Q) a w)
    (pass : ∀ l m a w, J l m a w → ∃ rest, findLabel c l = some rest ∧ rest.wp P (jumpTo (fun l' a' w' => ∃ m', m' < m ∧ J l' m' a' w') Q) a w) : (Code.scope c).wp P Q a w := by
  intro b k cs
  have hg : ∀ l rest, findLabel c l = some rest → gotoIn l (.inScope c :: k) = some (.code rest :: .inScope c :: k) := fun l rest hf => by simp [gotoIn, hf]
  have key : ∀ n l rest a w, findLabel c l = some rest → J l n a w → ∃ e a' w', Q e a' w' ∧ Arrives P (lone (b.at a (.code rest :: .inScope c :: k)) cs w) b k cs e a' w' := by
    intro n
    induction n using Nat.strongRecOn with
    | _ n ih =>
      intro l rest a w hf hJ
      obtain ⟨rest', hf', hp⟩ := pass l n a w hJ
      obtain rfl : rest' = rest := Option.some.inj (hf'.symm.trans hf)
      obtain ⟨e, a₁, w₁, hq, harr⟩ := hp b (.inScope c :: k) cs
      cases e with
      | normal => exact ⟨.normal, a₁, w₁, hq, Steps.trans harr (.one step_inScope)⟩
      | exit id => exact ⟨.exit id, a₁, w₁, hq, fun k' hk => harr k' (by simp [exitTo, hk])⟩
      | goto l' =>
        obtain ⟨m', hlt, hJ'⟩ := hq
        obtain ⟨rest2, hf2, _⟩ := pass l' m' a₁ w₁ hJ'
        obtain ⟨e₂, a₂, w₂, hq₂, harr₂⟩ := ih m' hlt l' rest2 a₁ w₁ hf2 hJ'
        exact ⟨e₂, a₂, w₂, hq₂, .of_steps (harr _ (hg l' rest2 hf2)) harr₂⟩
      | ret => exact ⟨_, a₁, w₁, hq, harr⟩
      | panic ch => exact ⟨_, a₁, w₁, hq, harr⟩
      | outgrown => exact ⟨_, a₁, w₁, hq, harr⟩
  obtain ⟨e, a₁, w₁, hq, harr⟩ := first b (.inScope c :: k) cs
  cases e with
  | normal => exact ⟨.normal, a₁, w₁, hq, .head step_scope (Steps.trans harr (.one step_inScope))⟩
  | exit id => exact ⟨.exit id, a₁, w₁, hq, fun k' hk => .head step_scope (harr k' (by simp [exitTo, hk]))⟩
  | goto l' =>
    obtain ⟨m, hJ'⟩ := hq
    obtain ⟨rest2, hf2, _⟩ := pass l' m a₁ w₁ hJ'
    obtain ⟨e₂, a₂, w₂, hq₂, harr₂⟩ := key m l' rest2 a₁ w₁ hf2 hJ'
    exact ⟨e₂, a₂, w₂, hq₂, .of_steps (.head step_scope (harr _ (hg l' rest2 hf2))) harr₂⟩
  | ret => exact ⟨_, a₁, w₁, hq, .of_steps (.one step_scope) harr⟩
  | panic ch => exact ⟨_, a₁, w₁, hq, .of_steps (.one step_scope) harr⟩
  | outgrown => exact ⟨_, a₁, w₁, hq, .of_steps (.one step_scope) harr⟩

/-- From a label on, whatever holds there: out, or to a label with less left. -/
def Pass (P : Program) (c : Code) (Q : Exit → Act → World → Prop) (J : Nat → Nat → Act → World → Prop) (l : Nat) : Prop :=
  ∀ m a w, J l m a w → ∃ rest, findLabel c l = some (.seq .skip rest) ∧ rest.wp P (jumpTo (fun l' a' w' => ∃ m', m' < m ∧ J l' m' a' w') Q) a w
theorem Pass.less {c rest : Code} {J : Nat → Nat → Act → World → Prop} {l m m' : Nat} (h : Pass P c Q J l) (hf : findLabel c l = some (.seq .skip rest)) (hm : m' ≤ m) (hJ : J l m' a w) : rest.wp P (jumpTo (fun l' a' w' => ∃ k, k < m ∧ J l' k a' w') Q) a w := by
  obtain ⟨r, hr, hw⟩ := h m' a w hJ
  obtain rfl : r = rest := by
    have := hr.symm.trans hf
    simp only [Option.some.injEq, Code.seq.injEq, true_and] at this
    exact this
  refine Code.wp_mono (fun e a w hq => ?_) hw
  cases e with
  | goto l' => obtain ⟨k, hk, hj⟩ := hq; exact ⟨k, by omega, hj⟩
  | _ => exact hq
theorem Pass.begin {c rest : Code} {J : Nat → Nat → Act → World → Prop} {l m : Nat} (h : Pass P c Q J l) (hf : findLabel c l = some (.seq .skip rest)) (hJ : J l m a w) : rest.wp P (jumpTo (fun l' a' w' => ∃ k, J l' k a' w') Q) a w := by
  refine Code.wp_mono (fun e a w hq => ?_) (h.less hf (Nat.le_refl m) hJ)
  cases e with
  | goto l' => obtain ⟨k, _, hj⟩ := hq; exact ⟨k, hj⟩
  | _ => exact hq
theorem Pass.whole {c : Code} {J : Nat → Nat → Act → World → Prop} {l m : Nat} (h : Pass P c Q J l) (hJ : J l m a w) : ∃ rest, findLabel c l = some rest ∧ rest.wp P (jumpTo (fun l' a' w' => ∃ m', m' < m ∧ J l' m' a' w') Q) a w := by
  obtain ⟨r, hr, hw⟩ := h m a w hJ
  exact ⟨_, hr, wp_seq (wp_skip hw)⟩
/-- Four labels; the run falls into label 0, and from there into label 2. -/
theorem wp_scope_four {c : Code} (J : Nat → Nat → Act → World → Prop) (hJ : ∀ l m a w, J l m a w → l < 4) (p1 : Pass P c Q J 1) (p2 : Pass P c Q J 2) (p3 : Pass P c Q J 3) (p0 : Pass P c Q J 2 → Pass P c Q J 0)
    (first : Pass P c Q J 0 → c.wp P (jumpTo (fun l a w => ∃ m, J l m a w) Q) a w) : (Code.scope c).wp P Q a w := by
  refine wp_scope_labels J (first (p0 p2)) fun l m a w h => ?_
  have hl := hJ l m a w h
  match l, hl, h with
  | 0, _, h => exact (p0 p2).whole h
  | 1, _, h => exact p1.whole h
  | 2, _, h => exact p2.whole h
  | 3, _, h => exact p3.whole h
end
end Go.Proofs.YtdcbcjljmjnopaaGreatDoor

namespace Go.Proofs.YtdcbcjljmjnopaaGreatDoor
open Go.RowKit

theorem OwnF.own_lt {w : World} {v : Value} {o : Option Nat} {ls : List Fld} (h : OwnF w v o ls) (b : Nat) (hb : o = some b) : b < w.heap.size := by
  obtain ⟨⟨_, h2⟩, h3⟩ := h
  rcases h2 with ⟨rfl, _⟩ | ⟨g, cap, cur, hv, _, hh, _⟩
  · rw [hb] at h3
    cases h3
  · rw [hb, hv] at h3
    obtain rfl : g = b := Option.some.inj h3
    exact (Array.getElem?_eq_some_iff.1 hh).1
def fldA (f : Fld) : Value := .agg #[.string ⟨f.1.toArray⟩, .string ⟨f.2.toArray⟩]
theorem filter_snoc (p : Fld → Bool) (ls : List Fld) (f : Fld) : (ls ++ [f]).filter p = ls.filter p ++ (if p f = true then [f] else []) := by
  rw [List.filter_append]
  congr 1
  cases h : p f <;> simp [h]

/-- Fields whose names and values are no longer than any text of Go's may be here. -/
def SlimB (ls : List Fld) : Prop := ∀ f ∈ ls, f.1.length ≤ 281474976710656 ∧ f.2.length ≤ 281474976710656
theorem Slim.b {ls : List Fld} (h : Slim ls) : SlimB ls := fun f hf => ⟨by have := (h f hf).1; omega, by have := (h f hf).2; omega⟩
set_option maxHeartbeats 8000000 in
set_option maxRecDepth 100000 in
theorem keep_anyB {P : Nat → Prop} (fn : FuncId) (hfn : fn = 41
    ) (cap : Value) (pr : Fld → Bool) (w : World) (A : Option Addr) (ls : List Fld) (n c : Nat) (hn : ls.length = n) (hmax : n * 32 ≤ 140737488355328) (h : SrcF w P A ls) (hs : SlimB ls)
    (hw : ∀ f ∈ ls, ∀ X : World, Below w.heap.size w X → Calls Tryz.prog fn #[fldA f, cap] X fun e w' => e = .returned (.bool (pr f)) ∧ Below X.heap.size X w') :
    Calls Tryz.prog 40 #[.slice A n c, .func (.func fn) #[] #[cap]] w (GotF (ls.filter pr) w) := by
  have HN := Lib.hid hn
  have H := Lib.hid h
  have HS := Lib.hid hs
  have HW := Lib.hid hw
  clear hn h hs hw
  all_goals try subst hfn
  all_goals
    go_enter Tryz.func40, Tryz.ntmps40
    go_wp2_with fail
    go_loopw [5, 10] (fun v vi wr => ∃ (k : Nat) (o : Option Nat) (r : List Fld), vi = .int .i64 (k : Int) ∧ k ≤ n ∧ Hid ((ls.take k).filter pr = r) ∧ Hid (OwnF wr v o r) ∧ Hid (∀ b, o = some b → w.heap.size ≤ b) ∧ Hid (Below w.heap.size w wr)) (fun _ vi _ => n - (intOf vi).toNat)
    case atStart => exact ⟨0, none, [], rfl, Nat.zero_le _, Lib.hid rfl, Lib.hid (OwnF.nil _), Lib.hid (fun _ h => by cases h), Lib.hid (Below.refl _ _)⟩
    case round =>
      obtain ⟨k, o, r, rfl, hk, HR, HO, HOB, HB⟩ := hrel
      by_cases hlt : k < n
      · obtain ⟨p, f, hf, hat, y0, y1, _, _⟩ := H.out.at (c := c) HN.out hlt HB.out
        obtain ⟨s1, s2⟩ := HS.out f (List.mem_of_getElem? hf)
        have HTK := Lib.hid (show (ls.take (k + 1)).filter pr = r ++ (if pr f = true then [f] else []) by rw [take_snoc ls k f hf, filter_snoc, HR.out])
        have HRL := Lib.hid (show r.length ≤ k by
          have h1 := List.length_filter_le pr (ls.take k)
          rw [HR.out, List.length_take] at h1
          omega)
        have hb0 : Below w.heap.size w (wr.alloc (.cells #[.string ⟨f.1.toArray⟩, .string ⟨f.2.toArray⟩] 42)) := HB.out.alloc HB.out.size _
        have CW := Lib.hid (HW.out f (List.mem_of_getElem? hf) _ hb0)
        unfold fldA at CW
        have HB0 := Lib.hid hb0
        have I0 := Lib.hid (Is.made wr 42 [.string ⟨f.1.toArray⟩, .string ⟨f.2.toArray⟩])
        have O0 := Lib.hid (HO.out.kept ((Turn.refl (fun _ => False) wr).alloc (.cells #[.string ⟨f.1.toArray⟩, .string ⟨f.2.toArray⟩] 42)) (fun _ _ h => h))
        clear hf hb0
        cases hpr : pr f with
        | false =>
          rw [hpr] at CW
          have HP := Lib.hid hpr
          clear hpr
          go_wp2_with fail
          refine CW.out.mono ?_
          rintro e w5 ⟨rfl, b5⟩
          have B5 := Lib.hid (HB0.out.trans (b5.mono HB0.out.size))
          have O5 := Lib.hid (O0.out.kept (Turn.of_below (S := fun _ => False) b5) (fun _ _ h => h))
          clear b5
          go_wp2_with fail
          go_roundw
          case rel => exact ⟨k + 1, o, r, by go_num, hlt, Lib.hid (by rw [HTK.out, HP.out]; simp), O5, HOB, B5⟩
          case measure => simp [intOf]; omega
        | true =>
          rw [hpr] at CW
          have HP := Lib.hid hpr
          clear hpr
          obtain ⟨f1, f2⟩ := f
          simp only at *
          have z1 : (⟨f1.toArray⟩ : ByteArray).size ≤ 281474976710656 := by rw [← bl_length, bl_mk]; omega
          have z2 : (⟨f2.toArray⟩ : ByteArray).size ≤ 281474976710656 := by rw [← bl_length, bl_mk]; omega
          have K1 := Lib.hid (fun X : World => clone_any ⟨f1.toArray⟩ X z1)
          have K2 := Lib.hid (fun X : World => clone_any ⟨f2.toArray⟩ X z2)
          obtain ⟨Nm, hNm⟩ : ∃ Nm : ByteArray, Nm = ⟨f1.toArray⟩ := ⟨_, rfl⟩
          obtain ⟨Vl, hVl⟩ : ∃ Vl : ByteArray, Vl = ⟨f2.toArray⟩ := ⟨_, rfl⟩
          have HP2 := Lib.hid (fun (X : World) (hB : Below wr.heap.size wr X) => run_push_fld X _ o r (f1, f2) (HO.out.kept (Turn.of_below (S := fun _ => False) hB) (fun _ _ h => h)) (by have := HRL.out; omega))
          simp only at HP2
          rw [← hNm] at y0 I0 O0 HB0 CW K1 HP2
          rw [← hVl] at y1 I0 O0 HB0 CW K2 HP2
          clear z1 z2 hNm hVl s1 s2
          obtain ⟨g0, hg0⟩ : ∃ g0, wr.heap.size = g0 := ⟨_, rfl⟩
          go_wp2_with fail
          refine CW.out.mono ?_
          rintro e w5 ⟨rfl, b5⟩
          have B5 := Lib.hid (((Below.refl wr.heap.size wr).alloc (Nat.le_refl _) _).trans (b5.mono ((Below.refl wr.heap.size wr).alloc (Nat.le_refl _) _).size))
          have I5 := Lib.hid (I0.out.kept (Turn.of_below (S := fun _ => False) b5) (fun h => h))
          clear b5 I0 O0 HB0 CW y0 y1 hat
          rw [hg0] at I5
          have x0 : w5.cell? ⟨g0, 0, none⟩ = some (.string Nm) := I5.out.cell 0
          have x1 : w5.cell? ⟨g0, 1, none⟩ = some (.string Vl) := I5.out.cell 1
          go_wp2_with fail
          have HOG : Hid (∀ b, o = some b → b = g0 → False) := Lib.hid (fun (b : Nat) (e : o = some b) (hb : b = g0) => by
            have h1 := (HO.out.own_lt b e)
            omega)
          have D5 : Hid (Below wr.heap.size wr w5.drew) := Lib.hid (below_drewN B5.out 1)
          have J5 : Hid (Is w5.drew g0 42 [.string Nm, .string Vl]) := Lib.hid I5.out.drew
          go_region_held3 (fun w' => w'.cell? ⟨g0, 0, none⟩ = some (.string Nm) ∧ w'.cell? ⟨g0, 1, none⟩ = some (.string Vl)) (first | exact ⟨x0, x1⟩ | exact ⟨x60, x61⟩ | exact ⟨x70, x71⟩ | exact ⟨y60, y61⟩ | exact ⟨y70, y71⟩ | exact ⟨x90, x91⟩ | go_keep)
            (first
              | (go_at_call 64
                 (first | (with_reducible refine (K1.out w5.drew).mono ?_) | (with_reducible refine (K1.out w7).mono ?_))
                 rintro e w6 ⟨rfl, b6⟩
                 have D6 : Hid (Below wr.heap.size wr w6) := by
                   first
                     | exact Lib.hid (D7.out.trans (b6.mono D7.out.size))
                     | exact Lib.hid (D5.out.trans (b6.mono D5.out.size))
                 have J6 : Hid (Is w6 g0 42 [.string Nm, .string Vl]) := by
                   first
                     | exact Lib.hid (J7.out.kept (Turn.of_below (S := fun _ => False) b6) (fun h => h))
                     | exact Lib.hid (J5.out.kept (Turn.of_below (S := fun _ => False) b6) (fun h => h))
                 have x60 : w6.cell? ⟨g0, 0, none⟩ = some (.string Nm) := J6.out.cell 0
                 have x61 : w6.cell? ⟨g0, 1, none⟩ = some (.string Vl) := J6.out.cell 1
                 have y60 : (w6.alloc (.cells #[.string Nm, .string Vl] 42)).cell? ⟨g0, 0, none⟩ = some (.string Nm) := (J6.out.alloc _).cell 0
                 have y61 : (w6.alloc (.cells #[.string Nm, .string Vl] 42)).cell? ⟨g0, 1, none⟩ = some (.string Vl) := (J6.out.alloc _).cell 1
                 clear b6)
              | (go_at_call 64
                 (first | (with_reducible refine (K2.out w5.drew).mono ?_) | (with_reducible refine (K2.out w6).mono ?_))
                 rintro e w7 ⟨rfl, b7⟩
                 have D7 : Hid (Below wr.heap.size wr w7) := by
                   first
                     | exact Lib.hid (D6.out.trans (b7.mono D6.out.size))
                     | exact Lib.hid (D5.out.trans (b7.mono D5.out.size))
                 have J7 : Hid (Is w7 g0 42 [.string Nm, .string Vl]) := by
                   first
                     | exact Lib.hid (J6.out.kept (Turn.of_below (S := fun _ => False) b7) (fun h => h))
                     | exact Lib.hid (J5.out.kept (Turn.of_below (S := fun _ => False) b7) (fun h => h))
                 have x70 : w7.cell? ⟨g0, 0, none⟩ = some (.string Nm) := J7.out.cell 0
                 have x71 : w7.cell? ⟨g0, 1, none⟩ = some (.string Vl) := J7.out.cell 1
                 have y70 : (w7.alloc (.cells #[.string Nm, .string Vl] 42)).cell? ⟨g0, 0, none⟩ = some (.string Nm) := (J7.out.alloc _).cell 0
                 have y71 : (w7.alloc (.cells #[.string Nm, .string Vl] 42)).cell? ⟨g0, 1, none⟩ = some (.string Vl) := (J7.out.alloc _).cell 1
                 clear b7)
              | (with_reducible (show if _ = true then Oper.wp _ _ _ (World.alloc w6 _) _ _ else _)
                 obtain ⟨v', w', o', hrun, own', t', ho'⟩ := HP2.out w6 D6.out
                 refine step_append_by rfl (.tmp 17) (.tmp 25) 23 rfl _ _ v' w' rfl rfl hrun ?_
                 have hg1 : ¬ (o = some g0) := fun e => HOG.out g0 e rfl
                 have J9 : Hid (Is w' g0 42 [.string Nm, .string Vl]) := Lib.hid (J6.out.kept t' hg1)
                 have x90 : w'.cell? ⟨g0, 0, none⟩ = some (.string Nm) := J9.out.cell 0
                 have x91 : w'.cell? ⟨g0, 1, none⟩ = some (.string Vl) := J9.out.cell 1
                 have OO := Lib.hid own'
                 have TT := Lib.hid (own_turn (HB.out.trans (D6.out.mono HB.out.size)) HOB.out t' ho')
                 clear own' t' ho' hrun hg1)
              | (with_reducible (show if _ = true then Oper.wp _ _ _ (World.alloc w7 _) _ _ else _)
                 obtain ⟨v', w', o', hrun, own', t', ho'⟩ := HP2.out w7 D7.out
                 refine step_append_by rfl (.tmp 17) (.tmp 25) 23 rfl _ _ v' w' rfl rfl hrun ?_
                 have hg1 : ¬ (o = some g0) := fun e => HOG.out g0 e rfl
                 have J9 : Hid (Is w' g0 42 [.string Nm, .string Vl]) := Lib.hid (J7.out.kept t' hg1)
                 have x90 : w'.cell? ⟨g0, 0, none⟩ = some (.string Nm) := J9.out.cell 0
                 have x91 : w'.cell? ⟨g0, 1, none⟩ = some (.string Vl) := J9.out.cell 1
                 have OO := Lib.hid own'
                 have TT := Lib.hid (own_turn (HB.out.trans (D7.out.mono HB.out.size)) HOB.out t' ho')
                 clear own' t' ho' hrun hg1))
          all_goals
            go_wp2_with fail
            go_roundw
            case rel => exact ⟨k + 1, o', r ++ [(f1, f2)], by go_num, hlt, Lib.hid (by rw [HTK.out, HP.out]; rfl), OO, Lib.hid TT.out.2, Lib.hid TT.out.1⟩
            case measure => simp [intOf]; omega
      · have HQ := Lib.hid (show ls.filter pr = r by rw [← HR.out, List.take_of_length_le (by rw [HN.out]; omega)])
        go_wp2_with fail
        go_ret
        exact ⟨_, o, rfl, by rw [HQ.out]; exact HO.out, HOB.out, HB.out⟩

theorem keep_any {P : Nat → Prop} (fn : FuncId) (hfn : fn = 41
    ) (cap : Value) (pr : Fld → Bool) (w : World) (A : Option Addr) (ls : List Fld) (n c : Nat) (hn : ls.length = n) (hmax : n * 32 ≤ 140737488355328) (h : SrcF w P A ls) (hs : Slim ls)
    (hw : ∀ f ∈ ls, ∀ X : World, Below w.heap.size w X → Calls Tryz.prog fn #[fldA f, cap] X fun e w' => e = .returned (.bool (pr f)) ∧ Below X.heap.size X w') :
    Calls Tryz.prog 40 #[.slice A n c, .func (.func fn) #[] #[cap]] w (GotF (ls.filter pr) w) := keep_anyB fn hfn cap pr w A ls n c hn hmax h hs.b hw

theorem sameN_bl (s : ByteArray) (f : Fld) : sameN (bl s) f = (lowF f.1 == lowF (bl s)) := rfl
/-- Get's test. -/
theorem get1_any (f : Fld) (nm : ByteArray) (g : Nat) (X : World) (hc : X.cell? ⟨g, 0, none⟩ = some (.string nm)) :
    Calls Tryz.prog 41 #[fldA f, .pointer (some ⟨g, 0, none⟩)] X fun e w' => e = .returned (.bool (sameN (bl nm) f)) ∧ Below X.heap.size X w' := by
  unfold fldA
  have hlt := Lib.lt_of_cell hc
  have z : (X.alloc (.cells #[.string ⟨f.1.toArray⟩, .string ⟨f.2.toArray⟩] 42)).cell? ⟨g, 0, none⟩ = some (.string nm) := (((Below.refl _ X).alloc (Nat.le_refl _) _).cell hlt).trans hc
  have CS := Lib.hid (fun W : World => ty_same ⟨f.1.toArray⟩ nm W)
  rw [bl_mk] at CS
  have HB := Lib.hid ((Below.refl X.heap.size X).alloc (Nat.le_refl _) (.cells #[.string ⟨f.1.toArray⟩, .string ⟨f.2.toArray⟩] 42))
  rw [sameN_bl]
  generalize (lowF f.1 == lowF (bl nm)) = b at *
  clear hc
  generalize f.1 = f1 at *
  generalize f.2 = f2 at *
  go_enter Tryz.func41, Tryz.ntmps41
  go_wp2_with fail
  refine (CS.out _).mono ?_
  rintro e w' ⟨rfl, b'⟩
  go_wp2_with fail
  go_ret
  exact ⟨rfl, HB.out.trans (b'.mono HB.out.size)⟩

set_option maxHeartbeats 8000000 in
set_option maxRecDepth 100000 in
theorem get_anyB {P : Nat → Prop} (w : World) (A : Option Addr) (ls : List Fld) (n c : Nat) (hn : ls.length = n) (hmax : n * 32 ≤ 140737488355328) (h : SrcF w P A ls) (hs : SlimB ls) (nm : ByteArray) :
    Calls Tryz.prog 22 #[.slice A n c, .string nm] w (GotS (getF ls (bl nm)) w) := by
  have hb0 : Below w.heap.size w (w.alloc (.cells #[.string nm] 9)) := (Below.refl _ _).alloc (Nat.le_refl _) _
  have i0 := Is.made w 9 [.string nm]
  have CK := Lib.hid (keep_anyB 41 (by simp) (.pointer (some ⟨w.heap.size, 0, none⟩)) (sameN (bl nm)) (w.alloc (.cells #[.string nm] 9)) A ls n c hn hmax (h.below hb0) hs (fun f _ X hX => get1_any f nm w.heap.size X
    ((i0.kept (Turn.of_below (S := fun _ => False) hX) (fun h => h)).cell 0)))
  have HB0 := Lib.hid hb0
  have HG := Lib.hid (show getF ls (bl nm) = (ls.filter (sameN (bl nm))).map (·.2) from rfl)
  have HL := Lib.hid (show (ls.filter (sameN (bl nm))).length ≤ n by rw [← hn]; exact List.length_filter_le _ _)
  clear hb0 i0 h hs hn
  generalize ls.filter (sameN (bl nm)) = fs at *
  generalize getF ls (bl nm) = R at *
  go_enter Tryz.func22, Tryz.ntmps22
  go_wp2_with fail
  refine CK.out.mono ?_
  rintro e w1 ⟨v1, o1, rfl, own1, _, b1⟩
  obtain ⟨A1, c1, hv1, src1⟩ := own1.src (fun _ => True) (fun _ _ => trivial)
  subst hv1
  have H1 := Lib.hid src1
  have B1 := Lib.hid (HB0.out.trans (b1.mono HB0.out.size))
  clear own1 src1 b1 HB0 CK
  go_wp2_with fail
  go_loopw [5, 12] (fun v vi wr => ∃ (k : Nat) (o : Option Nat) (r : List (List UInt8)), vi = .int .i64 (k : Int) ∧ k ≤ fs.length ∧ Hid ((fs.take k).map (·.2) = r) ∧ Hid (OwnS wr v o r) ∧ Hid (∀ b, o = some b → w1.heap.size ≤ b) ∧ Hid (Below w1.heap.size w1 wr)) (fun _ vi _ => fs.length - (intOf vi).toNat)
  case atStart => exact ⟨0, none, [], rfl, Nat.zero_le _, Lib.hid rfl, Lib.hid (OwnS.nil _), Lib.hid (fun _ h => by cases h), Lib.hid (Below.refl _ _)⟩
  case round =>
    obtain ⟨k, o, r, rfl, hk, HR, HO, HOB, HB⟩ := hrel
    have hfl := HL.out
    by_cases hlt : k < fs.length
    · obtain ⟨p, f, hf, hat, y0, y1, _, _⟩ := H1.out.at (c := c1) rfl hlt HB.out
      have HTK := Lib.hid (show (fs.take (k + 1)).map (·.2) = r ++ [f.2] by rw [take_snoc fs k f hf, List.map_append, HR.out]; rfl)
      have hb1 : Below w1.heap.size w1 (wr.alloc (.cells #[.string ⟨f.1.toArray⟩, .string ⟨f.2.toArray⟩] 42)) := HB.out.alloc HB.out.size _
      obtain ⟨v', w', o', hrun, own', t', ho'⟩ := run_push_str (wr.alloc (.cells #[.string ⟨f.1.toArray⟩, .string ⟨f.2.toArray⟩] 42)) _ o r f.2 (HO.out.kept ((Turn.refl (fun _ => False) wr).alloc _) (fun _ _ h => h)) (by
        have h1 := congrArg List.length HR.out
        rw [List.length_map, List.length_take] at h1
        have := HL.out
        omega)
      rw [show (wr.alloc (.cells #[.string ⟨f.1.toArray⟩, .string ⟨f.2.toArray⟩] 42)).heap.size = wr.heap.size + 1 by simp] at hrun
      have HR5 := Lib.hid hrun
      have OO := Lib.hid own'
      have TT := Lib.hid (own_turn hb1 HOB.out t' ho')
      clear hrun own' t' ho' hb1 hf
      generalize f.1 = f1 at *
      generalize f.2 = x at *
      go_wp2_with (at_builtin; refine append_by rfl (.tmp 16) (.tmp 19) 48 rfl _ _ v' w' rfl rfl HR5.out ?_)
      go_roundw
      case rel => exact ⟨k + 1, o', r ++ [x], by go_num, hlt, HTK, OO, Lib.hid TT.out.2, Lib.hid TT.out.1⟩
      case measure => simp [intOf]; omega
    · have HQ := Lib.hid (show R = r by rw [HG.out, ← HR.out, List.take_of_length_le (by omega)])
      go_wp2_with fail
      go_ret
      exact ⟨_, o, rfl, by rw [HQ.out]; exact HO.out, fun b hb => Nat.le_trans B1.out.size (HOB.out b hb), B1.out.trans (HB.out.mono B1.out.size)⟩
theorem get_any {P : Nat → Prop} (w : World) (A : Option Addr) (ls : List Fld) (n c : Nat) (hn : ls.length = n) (hmax : n * 32 ≤ 140737488355328) (h : SrcF w P A ls) (hs : Slim ls) (nm : ByteArray) :
    Calls Tryz.prog 22 #[.slice A n c, .string nm] w (GotS (getF ls (bl nm)) w) := get_anyB w A ls n c hn hmax h hs.b nm
end Go.Proofs.YtdcbcjljmjnopaaGreatDoor
