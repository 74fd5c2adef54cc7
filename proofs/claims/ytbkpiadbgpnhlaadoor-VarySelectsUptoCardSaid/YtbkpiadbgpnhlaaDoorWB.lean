/-
  Package vary's map of Values put together: words; what appending a text to bytes of the call's own does.
  Conditions: those that each theorem names.
-/
import Derived.Test.YtbkpiadbgpnhlaaDoorWA
import Derived.Test.YtbkpiadbgpnhlaaDoorRB
import Derived.Lib.AppendStr
import Derived.Maps.Own
import Derived.Maps.OwnSet
import Derived.Maps.Views
import Derived.Carry
import Derived.StringKeys
namespace Go.Proofs.YtbkpiadbgpnhlaaDoor.Var
open Go.RowKit Go.Maps Hop

/-- append(v, s...), s a text: in place, or in a block that was not there. -/
theorem run_add2 (w : World) (v : Value) (o : Option Nat) (bs : List UInt8) (s : ByteArray) (h : Own w v o bs) (hlen : bs.length + s.size ≤ 140737488355328) :
    ∃ (v' : Value) (w' : World) (o' : Option Nat), (Builtin.append_ #[44, 9] 44 #[v, .string s]).run Tryd.prog w = .ok v' w' ∧ Own w' v' o' (bs ++ bl s) ∧ Turn (fun k => o = some k) w w' ∧ (∀ b, o' = some b → o = some b ∨ w.heap.size ≤ b) := by
  obtain ⟨i, hi, hz, hsz, hby⟩ := byteParts
  obtain ⟨hown, h3⟩ := h
  have hcells : Lib.strCells s = vals (bl s) := by simp [Lib.strCells, vals, YtbkpiadbgpnhlaaDoor.B, bl]
  obtain ⟨v', w', hrun, h4, h5, _⟩ := Lib.run_append_own_string (P := Tryd.prog) w 0 44 9 44 5 i Tryd.underlying44 Tryd.underlying9 hi hz hsz hby v bs.length (vals bs) hown s (by simp only [maxLen]; omega) hlen (Nat.zero_le _)
  refine ⟨v', w', v'.ownBlock, hrun, ⟨?_, rfl⟩, Turn.of_grown h5 (fun k hk => by rw [← h3]; exact hk), fun b hb => ?_⟩
  · rw [hcells] at h4
    rw [List.length_append, vals_append, bl_length]
    exact h4
  · rcases hown.2 with ⟨rfl, hn⟩ | ⟨g, cap, cur, rfl, _, hg, hnc, hcm, hcs, htk⟩
    · obtain ⟨v2, w2, hrun2, h42, _⟩ := Lib.run_append_own_string (P := Tryd.prog) w w.heap.size 44 9 44 5 i Tryd.underlying44 Tryd.underlying9 hi hz hsz hby (.slice none 0 0) bs.length (vals bs) ⟨hown.1, .inl ⟨rfl, hn⟩⟩ s (by simp only [maxLen]; omega) hlen (Nat.le_refl _)
      rw [hrun] at hrun2
      injection hrun2 with e1 e2
      subst e1
      exact .inr (h42.lt b hb).1
    · by_cases hroom : bs.length + s.size ≤ cap
      · have hr := Lib.run_append_room_string (P := Tryd.prog) (w := w) 44 9 44 5 i Tryd.underlying44 Tryd.underlying9 hi hsz g bs.length cap cur hg s hroom (by omega)
        rw [hrun] at hr
        injection hr with e1 e2
        subst e1
        left
        rw [← h3]
        exact hb
      · have hr := Lib.run_append_grow_string (P := Tryd.prog) (w := w) 44 9 44 5 i (.int .u8 0) Tryd.underlying44 Tryd.underlying9 hi hz ⟨g, 0, none⟩ bs.length cap (vals bs) (by rw [hsz, vals_length]; omega) (hown.cells (g := g) rfl) s (by omega) (by omega) (by rw [hby]; exact growslice_fits (by omega) (by omega))
        rw [hrun] at hr
        injection hr with e1 e2
        subst e1
        right
        have hb2 : w.heap.size = b := Option.some.inj hb
        omega

theorem keyLaw : Keyed Tryd.prog 9 := string_keyed Tryd.underlying9
/-- What an element reads as: itself. -/
def rawE (v : Value) : Option (DataW Value × List MemPlace) := some (.held v, [])
abbrev zeroJ : Value := .agg #[.slice none 0 0]
theorem joined_zero (w : World) : (zeroValue 46).run Tryd.prog w = .ok zeroJ w := by kernel_rfl
/-- Block bm is a map from names with small letters to what the fields' Values are, put together; each in bytes of its own. -/
def JoinAt (w : World) (base bm n : Nat) (ls : List Fld) : Prop := ∃ (D : DataW Value) (g : List UInt8 → Value × Option Nat), w.ownsMap Tryd.prog 9 rawE bm n D ∧
  (∀ key, Maps.has D (.string key) = (valK ls key).isSome) ∧
  (∀ key v, valK ls key = some v → D.atKey (.string key) (.held zeroJ) = .held (.agg #[(g key).1]) ∧ Own w (g key).1 (g key).2 v ∧ (∀ b, (g key).2 = some b → base ≤ b ∧ b ≠ bm)) ∧
  (∀ k1 k2 v1 v2 b, valK ls k1 = some v1 → valK ls k2 = some v2 → k1 ≠ k2 → (g k1).2 = some b → (g k2).2 ≠ some b)
/-- .. but for one name, whose bytes lie at o. -/
def JoinX (w : World) (base bm n : Nat) (ls : List Fld) (key : List UInt8) (o : Option Nat) : Prop := ∃ (D : DataW Value) (g : List UInt8 → Value × Option Nat), w.ownsMap Tryd.prog 9 rawE bm n D ∧
  (∀ key, Maps.has D (.string key) = (valK ls key).isSome) ∧
  (∀ k v, k ≠ key → valK ls k = some v → D.atKey (.string k) (.held zeroJ) = .held (.agg #[(g k).1]) ∧ Own w (g k).1 (g k).2 v ∧ (∀ b, (g k).2 = some b → base ≤ b ∧ b ≠ bm ∧ o ≠ some b)) ∧
  (∀ k1 k2 v1 v2 b, k1 ≠ key → k2 ≠ key → valK ls k1 = some v1 → valK ls k2 = some v2 → k1 ≠ k2 → (g k1).2 = some b → (g k2).2 ≠ some b) ∧
  (∀ b, o = some b → base ≤ b ∧ b ≠ bm)
theorem owns_turn {S : Nat → Prop} {w w' : World} {b n : Nat} {D : DataW Value} (h : w.ownsMap Tryd.prog 9 rawE b n D) (ht : Turn S w w') (hS : ¬ S b) : w'.ownsMap Tryd.prog 9 rawE b n D := by
  obtain ⟨es, clock, h1, h2⟩ := h
  have hlt : b < w.heap.size := (Array.getElem?_eq_some_iff.1 h1).1
  exact ⟨es, clock, (ht.block b hlt hS).trans h1, h2⟩
theorem JoinAt.kept {S : Nat → Prop} {w w' : World} {base bm n : Nat} {ls : List Fld} (h : JoinAt w base bm n ls) (ht : Turn S w w') (hS : ∀ k, base ≤ k → ¬ S k) (hb : base ≤ bm) : JoinAt w' base bm n ls := by
  obtain ⟨D, g, h1, h2, h3, h4⟩ := h
  refine ⟨D, g, owns_turn h1 ht (hS bm hb), h2, fun key v hv => ?_, h4⟩
  obtain ⟨a, b, c⟩ := h3 key v hv
  exact ⟨a, b.kept ht (fun k hk => hS k (c k hk).1), c⟩
theorem JoinAt.below {w w' : World} {base bm n : Nat} {ls : List Fld} (h : JoinAt w base bm n ls) (hb : Below w.heap.size w w') : JoinAt w' base bm n ls := by
  obtain ⟨D, g, h1, h2, h3, h4⟩ := h
  refine ⟨D, g, owns_turn h1 (Turn.of_below (S := fun _ => False) hb) (fun h => h), h2, fun key v hv => ?_, h4⟩
  obtain ⟨a, b, c⟩ := h3 key v hv
  exact ⟨a, b.kept (Turn.of_below (S := fun _ => False) hb) (fun _ _ h => h), c⟩
theorem JoinAt.lt {w : World} {base bm n : Nat} {ls : List Fld} (h : JoinAt w base bm n ls) : bm < w.heap.size := by
  obtain ⟨D, g, h1, _⟩ := h
  exact h1.lt
theorem JoinAt.made (w : World) (base : Nat) : JoinAt (w.alloc (.map #[] 0)) base w.heap.size 0 [] :=
  ⟨.map [], fun _ => (.slice none 0 0, none), World.ownsMap_made w Tryd.prog 9 _, fun _ => rfl, fun _ _ h => (by cases h), fun _ _ _ _ _ h => (by cases h)⟩
/-- The look-up of a name that is not there. -/
theorem JoinAt.look_none {w : World} {base bm n : Nat} {ls : List Fld} (h : JoinAt w base bm n ls) (L : ByteArray) (key : List UInt8) (hL : bl L = key) (hs : L.size ≤ maxLen) (hv : valK ls key = none) :
    (Instr.lookup 42 (.map (some bm)) (.string L) true).run Tryd.prog w = .ok (.tuple #[zeroJ, .bool false]) w ∧ JoinX w base bm n ls key none := by
  obtain ⟨D, g, h1, h2, h3, h4⟩ := h
  refine ⟨?_, D, g, h1, h2, fun k v hk hv => ?_, fun k1 k2 v1 v2 b _ _ => h4 k1 k2 v1 v2 b, fun _ h => by cases h⟩
  · obtain ⟨v, ps, hr, hR⟩ := h1.look_ok keyLaw Tryd.underlying42 (joined_zero w) (zd := .held zeroJ) (zp := []) rfl (WideMaps.keyOf_string_mk Tryd.underlying9 (s := L) hs)
    have e : L.data.toList = key := hL
    rw [e] at hr hR
    have hh := h2 key
    rw [hv] at hh
    rw [show Maps.has D (.string key) = false from hh] at hr
    rw [Maps.atKey_of_not_has (show Maps.has D (.string key) = false from hh)] at hR
    simp only [rawE, Option.some.injEq, Prod.mk.injEq, DataW.held.injEq] at hR
    rw [hR.1] at hr
    exact hr
  · obtain ⟨a, b, c⟩ := h3 k v hv
    exact ⟨a, b, fun x hx => ⟨(c x hx).1, (c x hx).2, by simp⟩⟩
/-- The look-up of a name that is. -/
theorem JoinAt.look_some {w : World} {base bm n : Nat} {ls : List Fld} (h : JoinAt w base bm n ls) (L : ByteArray) (key : List UInt8) (hL : bl L = key) (hs : L.size ≤ maxLen) (val : List UInt8) (hv : valK ls key = some val) :
    ∃ x o, (Instr.lookup 42 (.map (some bm)) (.string L) true).run Tryd.prog w = .ok (.tuple #[.agg #[x], .bool true]) w ∧ Own w x o val ∧ JoinX w base bm n ls key o := by
  obtain ⟨D, g, h1, h2, h3, h4⟩ := h
  obtain ⟨a0, b0, c0⟩ := h3 key val hv
  refine ⟨(g key).1, (g key).2, ?_, b0, D, g, h1, h2, fun k v hk hv' => ?_, fun k1 k2 v1 v2 b _ _ => h4 k1 k2 v1 v2 b, c0⟩
  · obtain ⟨v, ps, hr, hR⟩ := h1.look_ok keyLaw Tryd.underlying42 (joined_zero w) (zd := .held zeroJ) (zp := []) rfl (WideMaps.keyOf_string_mk Tryd.underlying9 (s := L) hs)
    have e : L.data.toList = key := hL
    rw [e] at hr hR
    have hh := h2 key
    rw [hv] at hh
    rw [show Maps.has D (.string key) = true from hh] at hr
    rw [a0] at hR
    simp only [rawE, Option.some.injEq, Prod.mk.injEq, DataW.held.injEq] at hR
    rw [hR.1] at hr
    exact hr
  · obtain ⟨a, b, c⟩ := h3 k v hv'
    exact ⟨a, b, fun x hx => ⟨(c x hx).1, (c x hx).2, fun e => h4 k key v val x hv' hv hk hx e⟩⟩
/-- .. in all later worlds. -/
theorem JoinAt.look_all {w : World} {base bm n : Nat} {ls : List Fld} (h : JoinAt w base bm n ls) (L : ByteArray) (key : List UInt8) (hL : bl L = key) (hs : L.size ≤ maxLen) (val : List UInt8) (hv : valK ls key = some val) :
    ∃ x o, Own w x o val ∧ (∀ b, o = some b → base ≤ b) ∧ ∀ W, Below w.heap.size w W → (Instr.lookup 42 (.map (some bm)) (.string L) true).run Tryd.prog W = .ok (.tuple #[.agg #[x], .bool true]) W := by
  obtain ⟨D, g, h1, h2, h3, h4⟩ := h
  obtain ⟨a0, b0, c0⟩ := h3 key val hv
  refine ⟨(g key).1, (g key).2, b0, fun b hb => (c0 b hb).1, fun W hW => ?_⟩
  obtain ⟨v, ps, hr, hR⟩ := (owns_turn h1 (Turn.of_below (S := fun _ => False) hW) (fun h => h)).look_ok keyLaw Tryd.underlying42 (joined_zero W) (zd := .held zeroJ) (zp := []) rfl (WideMaps.keyOf_string_mk Tryd.underlying9 (s := L) hs)
  have e : L.data.toList = key := hL
  rw [e] at hr hR
  have hh := h2 key
  rw [hv] at hh
  rw [show Maps.has D (.string key) = true from hh] at hr
  rw [a0] at hR
  simp only [rawE, Option.some.injEq, Prod.mk.injEq, DataW.held.injEq] at hR
  rw [hR.1] at hr
  exact hr
theorem JoinX.lt {w : World} {base bm n : Nat} {ls : List Fld} {key : List UInt8} {o : Option Nat} (h : JoinX w base bm n ls key o) : bm < w.heap.size := by
  obtain ⟨D, g, h1, _⟩ := h
  exact h1.lt
theorem JoinX.below {w w' : World} {base bm n : Nat} {ls : List Fld} {key : List UInt8} {o : Option Nat} (h : JoinX w base bm n ls key o) (hb : Below w.heap.size w w') : JoinX w' base bm n ls key o := by
  obtain ⟨D, g, h1, h2, h3, h4, h5⟩ := h
  refine ⟨D, g, owns_turn h1 (Turn.of_below (S := fun _ => False) hb) (fun h => h), h2, fun k v hk hv => ?_, h4, h5⟩
  obtain ⟨a, b, c⟩ := h3 k v hk hv
  exact ⟨a, b.kept (Turn.of_below (S := fun _ => False) hb) (fun _ _ h => h), c⟩
theorem JoinX.own {w : World} {base bm n : Nat} {ls : List Fld} {key : List UInt8} {o : Option Nat} (h : JoinX w base bm n ls key o) : ∀ b, o = some b → base ≤ b ∧ b ≠ bm := by
  obtain ⟨D, g, h1, h2, h3, h4, h5⟩ := h
  exact h5
/-- That name's bytes grow. -/
theorem JoinX.turn {w w' : World} {base bm n : Nat} {ls : List Fld} {key : List UInt8} {o o' : Option Nat} (h : JoinX w base bm n ls key o) (ht : Turn (fun k => o = some k) w w') (ho : ∀ b, o' = some b → o = some b ∨ w.heap.size ≤ b) (hb : base ≤ w.heap.size) : JoinX w' base bm n ls key o' := by
  obtain ⟨D, g, h1, h2, h3, h4, h5⟩ := h
  refine ⟨D, g, owns_turn h1 ht (fun e => (h5 bm e).2 rfl), h2, fun k v hk hv => ?_, h4, fun b hb' => ?_⟩
  · obtain ⟨a, b, c⟩ := h3 k v hk hv
    refine ⟨a, b.kept ht (fun x hx => (c x hx).2.2), fun x hx => ⟨(c x hx).1, (c x hx).2.1, fun e => ?_⟩⟩
    rcases ho x e with e | e
    · exact (c x hx).2.2 e
    · have := b.lt x hx
      omega
  · rcases ho b hb' with e | e
    · exact h5 b e
    · have := h1.lt
      exact ⟨by omega, by omega⟩
/-- Blocks beside are written: none of the map's, none of its bytes'. -/
theorem JoinX.beside {S : Nat → Prop} {w0 w' : World} {base bm n : Nat} {ls : List Fld} {key : List UInt8} {o : Option Nat} (h : JoinX w0 base bm n ls key o) (hb : Turn S w0 w') (hS : ∀ k, k < w0.heap.size → ¬ S k) : JoinX w' base bm n ls key o := h.below (hb.below hS)
/-- The store. -/
theorem JoinX.put {w : World} {base bm n : Nat} {ls : List Fld} {key : List UInt8} {o : Option Nat} (h : JoinX w base bm n ls key o) (hn : n < maxLen) (L : ByteArray) (hL : bl L = key) (hs : L.size ≤ maxLen) (x : Value) (val : List UInt8) (hx : Own w x o val) (f : Fld) (hf : lowF f.1 = key) (hv : putV (valK ls key) f.2 = some val) :
    ∃ w', (Instr.mapUpdate 42 (.map (some bm)) (.string L) (.agg #[x])).run Tryd.prog w = .ok () w' ∧ JoinAt w' base bm (n + 1) (ls ++ [f]) ∧ Turn (fun k => k = bm) w w' := by
  obtain ⟨D, g, h1, h2, h3, h4, h5⟩ := h
  obtain ⟨w', hrun, o3, g3⟩ := h1.update keyLaw Tryd.underlying42 hn (WideMaps.keyOf_string_mk Tryd.underlying9 (s := L) hs) (show rawE (.agg #[x]) = some (.held (.agg #[x]), []) from rfl)
  have e : L.data.toList = key := hL
  rw [e] at o3
  have ht : Turn (fun k => k = bm) w w' := Turn.of_grown g3 (fun k hk => by injection hk with hk; exact hk.symm)
  have hval : ∀ k, valK (ls ++ [f]) k = if k = key then some val else valK ls k := fun k => by
    rw [valK_snoc, hf]
    by_cases hk : k = key
    · subst hk
      rw [if_pos rfl, if_pos rfl, hv]
    · rw [if_neg (fun e => hk e.symm), if_neg hk]
  refine ⟨w', hrun, ⟨_, fun k => if k = key then (x, o) else g k, o3, fun k => ?_, fun k v hk => ?_, fun k1 k2 v1 v2 b hk1 hk2 hne e1 => ?_⟩, ht⟩
  · rw [hval k]
    by_cases hk : k = key
    · subst hk
      rw [Maps.has_put_same h1.isMap (by simp [WideAt.IsKeyLit]), if_pos rfl]
      rfl
    · rw [Maps.has_put_other (by simpa using hk), if_neg hk]
      exact h2 k
  · rw [hval k] at hk
    by_cases hkk : k = key
    · subst hkk
      rw [if_pos rfl, Option.some.injEq] at hk
      subst hk
      simp only [if_pos]
      exact ⟨Maps.atKey_put_same h1.isMap (by simp [WideAt.IsKeyLit]) .., hx.kept ht (fun b hb e => (h5 b hb).2 e), h5⟩
    · rw [if_neg hkk] at hk
      simp only [if_neg hkk]
      obtain ⟨a, b, c⟩ := h3 k v hkk hk
      refine ⟨?_, b.kept ht (fun y hy e => (c y hy).2.1 e), fun y hy => ⟨(c y hy).1, (c y hy).2.1⟩⟩
      rw [Maps.atKey_put_other (by simpa using hkk)]
      exact a
  · rw [hval k1] at hk1
    rw [hval k2] at hk2
    by_cases e2 : k2 = key
    · have e3 : ¬ k1 = key := fun e => hne (e.trans e2.symm)
      rw [if_neg e3] at hk1
      simp only [if_neg e3] at e1
      simp only [if_pos e2]
      obtain ⟨_, _, c⟩ := h3 k1 v1 e3 hk1
      exact (c b e1).2.2
    · rw [if_neg e2] at hk2
      simp only [if_neg e2]
      by_cases e3 : k1 = key
      · simp only [if_pos e3] at e1
        obtain ⟨_, _, c⟩ := h3 k2 v2 e2 hk2
        exact fun e4 => (c b e4).2.2 e1
      · rw [if_neg e3] at hk1
        simp only [if_neg e3] at e1
        exact h4 k1 k2 v1 v2 b e3 e2 hk1 hk2 hne e1
end Go.Proofs.YtbkpiadbgpnhlaaDoor.Var
