/-
  slices.IndexFunc, ContainsFunc, DeleteFunc over lists of texts, at whatever function value that lays blocks of its own alone.
  Conditions: those that each theorem names.
-/
import Derived.Test.YtdcbcjljmjnopaaGreatDoorVA
import Derived.Test.YtdcbcjljmjnopaaGreatDoorLW
import Derived.Lib.SliceRun
import Derived.Laws.IdiomCopy
import Derived.Shelf.Abstract
import Derived.Deep.DeepMust
namespace Go.Proofs.YtdcbcjljmjnopaaGreatDoor.Hop
open Go.RowKit

set_option maxRecDepth 100000 in
/-- append(v, s...). -/
theorem run_append_strs {P : Nat → Prop} (w : World) (v : Value) (o : Option Nat) (ls news : List (List UInt8)) (h : OwnS w v o ls) (A : Option Addr) (n c : Nat) (hn : news.length = n) (hs : SrcS w P A news) (hlen : (ls.length + news.length) * 16 ≤ 140737488355328) :
    ∃ (v' : Value) (w' : World) (o' : Option Nat), (Builtin.append_ #[48, 48] 48 #[v, .slice A n c]).run Tryz.prog w = .ok v' w' ∧ OwnS w' v' o' (ls ++ news) ∧ Turn (fun k => o = some k) w w' ∧ (∀ k, o' = some k → o = some k ∨ w.heap.size ≤ k) := by
  subst hn
  obtain ⟨i, hin, hz, hsz, hby⟩ := strParts
  obtain ⟨hown, ho⟩ := h
  cases A with
  | none =>
    have hb : news = [] := by
      cases news with
      | nil => rfl
      | cons b l => obtain ⟨ad, hA, _⟩ := hs (by simp); cases hA
    subst hb
    refine ⟨v, w, o, ?_, by rw [List.append_nil]; exact ⟨hown, ho⟩, Turn.refl _ _, fun k hk => .inl hk⟩
    rcases hown.2 with ⟨rfl, _⟩ | ⟨g, cap, cur, rfl, _, _, hnc, _⟩
    · simp [Builtin.append_, run_underlying Tryz.underlying48, sizeOf, typeInfo, hin, Builtin.lenOf, Builtin.firstCells]
    · simp [Builtin.append_, run_underlying Tryz.underlying48, sizeOf, typeInfo, hin, Builtin.lenOf, Builtin.firstCells, hnc, storeCells]
  | some a =>
    have hcells : ∀ j u, (strs news)[j]? = some u → w.cell? (a.add j) = some u := by
      intro j u hu
      have hj : j < news.length := by
        have := (List.getElem?_eq_some_iff.1 hu).1
        rwa [strs_length] at this
      obtain ⟨ad, hA, _, _, hc⟩ := hs (by omega)
      injection hA with hA
      subst hA
      have h1 := hc j _ (List.getElem?_eq_getElem hj)
      rw [h1, ← hu]
      simp [strs, List.getElem?_eq_getElem hj]
    obtain ⟨v', w', hrun, h2, h3, _, h5⟩ := run_append_own_at (P := Tryz.prog) w 0 48 48 9 i (.string ⟨#[]⟩) 1 16 Tryz.underlying48 hin hz hsz hby rfl (by omega) v ls.length (strs ls) hown a news.length c (strs news)
      (by rw [strs_length, Nat.mul_one]) hcells (strs_one _) (by simp only [maxLen]; omega) (by omega) (Nat.zero_le _)
    refine ⟨v', w', v'.ownBlock, hrun, ⟨?_, rfl⟩, Turn.of_grown h3 (fun k hk => by rw [← ho]; exact hk), fun k hk => ?_⟩
    · rw [List.length_append, strs, List.map_append]
      exact h2
    · rcases h5 with h | h
      · left; rw [← ho, ← h, hk]
      · right
        rw [h] at hk
        injection hk with hk
        omega

/-- A row of a list's own: its block whole. -/
theorem ownS_row {w : World} {v : Value} {o : Option Nat} {ls : List (List UInt8)} (h : OwnS w v o ls) : (v = .slice none 0 0 ∧ ls = [] ∧ o = none) ∨ ∃ g c cur, v = .slice (some ⟨g, 0, none⟩) ls.length c ∧ o = some g ∧ Is w g 9 cur ∧ ls.length ≤ c ∧ c ≤ maxLen ∧ cur.length = c ∧ cur.take ls.length = strs ls := by
  obtain ⟨⟨h1, h2⟩, h3⟩ := h
  rcases h2 with ⟨rfl, hn⟩ | ⟨g, cap, cur, rfl, hg, hh, hnc, hcm, hsz, htk⟩
  · exact .inl ⟨rfl, List.eq_nil_of_length_eq_zero hn, h3.symm⟩
  · refine .inr ⟨g, cap, cur.toList, rfl, h3.symm, ?_, hnc, hcm, by simpa using hsz, by simpa using htk⟩
    unfold Is
    simpa using hh
theorem row_ownS {w : World} {g c : Nat} {cur : List Value} {ls : List (List UInt8)} (h : Is w g 9 cur) (hn : ls.length ≤ c) (hc : c ≤ maxLen) (hl : cur.length = c) (ht : cur.take ls.length = strs ls) : OwnS w (.slice (some ⟨g, 0, none⟩) ls.length c) (some g) ls := by
  refine ⟨⟨by simp [strs], .inr ⟨g, c, cur.toArray, rfl, Nat.zero_le _, h, hn, hc, by simpa using hl, by simpa using ht⟩⟩, rfl⟩
theorem ownF_row {w : World} {v : Value} {o : Option Nat} {ls : List Fld} (h : OwnF w v o ls) : (v = .slice none 0 0 ∧ ls = [] ∧ o = none) ∨ ∃ g c cur, v = .slice (some ⟨g, 0, none⟩) ls.length c ∧ o = some g ∧ Is w g 42 cur ∧ ls.length ≤ c ∧ c ≤ maxLen ∧ cur.length = c * 2 ∧ cur.take (ls.length * 2) = flds ls := by
  obtain ⟨⟨h1, h2⟩, h3⟩ := h
  rcases h2 with ⟨rfl, hn⟩ | ⟨g, cap, cur, rfl, hg, hh, hnc, hcm, hsz, htk⟩
  · exact .inl ⟨rfl, List.eq_nil_of_length_eq_zero hn, h3.symm⟩
  · refine .inr ⟨g, cap, cur.toList, rfl, h3.symm, ?_, hnc, hcm, by simpa using hsz, by simpa using htk⟩
    unfold Is
    simpa using hh
theorem row_ownF {w : World} {g c : Nat} {cur : List Value} {ls : List Fld} (h : Is w g 42 cur) (hn : ls.length ≤ c) (hc : c ≤ maxLen) (hl : cur.length = c * 2) (ht : cur.take (ls.length * 2) = flds ls) : OwnF w (.slice (some ⟨g, 0, none⟩) ls.length c) (some g) ls := by
  refine ⟨⟨flds_length ls, .inr ⟨g, c, cur.toArray, rfl, Nat.zero_le _, h, hn, hc, by simpa using hl, by simpa using ht⟩⟩, rfl⟩

theorem size_setCells' (g : Nat) : ∀ (vs : List Value) (o : Nat) (w : World), (w.setCells g o vs).heap.size = w.heap.size
  | [], _, _ => rfl
  | v :: r, o, w => by
    rw [World.setCells, size_setCells' g r]
    simp [World.setCell]
theorem is_setCells {g : Nat} {t : TypeId} : ∀ (vs : List Value) (w : World) (o : Nat) (cur : List Value), Is w g t cur → ∃ cur', Is (w.setCells g o vs) g t cur' ∧ cur'.length = cur.length ∧ cur'.take o = cur.take o ∧ Turn (· = g) w (w.setCells g o vs)
  | [], w, o, cur, h => ⟨cur, h, rfl, rfl, Turn.refl _ _⟩
  | v :: r, w, o, cur, h => by
    obtain ⟨cur', h1, h2, h3, h4⟩ := is_setCells r (w.setCell ⟨g, o, none⟩ v) (o + 1) (cur.set o v) (h.set o v)
    refine ⟨cur', h1, by rw [h2, List.length_set], ?_, ((Turn.refl (· = g) w).setCell (fun _ => rfl) v).trans h4 (fun _ _ h => h)⟩
    have e := congrArg (List.take o) h3
    rw [List.take_take, List.take_take, Nat.min_eq_left (by omega)] at e
    rw [e, List.take_set_of_le (Nat.le_refl _)]
/-- clear(s), the elements of one cell or of several. -/
theorem run_clear (w : World) (t e ty : TypeId) (z : Value) (zs : List Value) (ht : Tryz.prog.underlying t = some (.slice e)) (hv : ∀ w, (zeroValue e).run Tryz.prog w = .ok z w) (hz : z.cells.toList = zs) (h1 : ∀ v ∈ zs, v.oneCell' = true) (g tt o n c : Nat) (cur : List Value) (hg : Is w g tt cur) (hfit : o + n * zs.length ≤ cur.length) :
    ∃ w' cur', (Builtin.clear_ #[t] ty #[.slice (some ⟨g, o, none⟩) n c]).run Tryz.prog w = .ok (.tuple #[]) w' ∧ Is w' g tt cur' ∧ cur'.length = cur.length ∧ cur'.take o = cur.take o ∧ Turn (· = g) w w' ∧ w'.heap.size = w.heap.size := by
  obtain ⟨vs, hvs⟩ : ∃ vs, (Builtin.zeroCells z.cells n).toList = vs := ⟨_, rfl⟩
  have hlen : vs.length = n * zs.length := by
    rw [← hvs, ← hz]
    simp [Builtin.zeroCells]
  have hone : ∀ v ∈ vs, v.oneCell' = true := by
    intro v hv'
    rw [← hvs] at hv'
    simp only [Builtin.zeroCells, Array.toList_map, Array.toList_range, List.mem_map, List.mem_range] at hv'
    obtain ⟨i, hi, rfl⟩ := hv'
    refine h1 _ ?_
    rw [← hz]
    have hp : 0 < z.cells.size := by
      rcases Nat.eq_zero_or_pos z.cells.size with h0 | h0
      · rw [h0] at hi; simp at hi
      · exact h0
    have hm := Nat.mod_lt i hp
    rw [getElem!_pos z.cells _ hm, Array.mem_toList_iff]
    exact Array.getElem_mem hm
  have hst := run_storeCells_cells (P := Tryz.prog) g o vs 0 w (fun j hj => by
    rw [Nat.add_zero, hg.cell]
    rw [List.getElem?_eq_getElem (by omega)]
    rfl) (fun j _ => hg.free _) hone
  rw [Nat.add_zero] at hst
  obtain ⟨cur', i1, i2, i3, i4⟩ := is_setCells vs w o cur hg
  refine ⟨_, cur', ?_, i1, i2, i3, i4, size_setCells' _ _ _ _⟩
  cases n with
  | zero =>
    have : vs = [] := List.eq_nil_of_length_eq_zero (by omega)
    subst this
    simp [Builtin.clear_, run_underlying ht, World.setCells]
  | succ m => simp [Builtin.clear_, run_underlying ht, hv, hvs, hst]
end Go.Proofs.YtdcbcjljmjnopaaGreatDoor.Hop

namespace Go.Proofs.YtdcbcjljmjnopaaGreatDoor.Hop
open Go.RowKit

/-- Where the first one of which p holds stands; -1: none. -/
def Hit {α : Type} (p : α → Bool) (l : List α) (i : Int) : Prop := (i = -1 ∧ l.any p = false) ∨ ∃ (k : Nat) (x : α), i = (k : Int) ∧ l[k]? = some x ∧ p x = true ∧ (l.take k).any p = false
theorem Hit.any {α : Type} {p : α → Bool} {l : List α} {i : Int} (h : Hit p l i) : decide (0 ≤ i) = l.any p := by
  rcases h with ⟨rfl, h⟩ | ⟨k, x, rfl, hx, hp, _⟩
  · rw [h]; rfl
  · have h1 : l.any p = true := List.any_eq_true.2 ⟨x, List.mem_of_getElem? hx, hp⟩
    rw [h1]
    simp
/-- What is asked of a function value: an answer, and blocks of its own alone. -/
def Asks {α : Type} (g : Nat) (lb : Array Value) (enc : α → Value) (p : α → Bool) (ls : List α) (S : Nat → Prop) (w : World) : Prop :=
  ∀ x ∈ ls, ∀ X : World, Turn S w X → Calls Tryz.prog g (#[enc x] ++ lb) X fun e w' => e = .returned (.bool (p x)) ∧ Below X.heap.size X w'
theorem Asks.mono {α : Type} {g : Nat} {lb : Array Value} {enc : α → Value} {p : α → Bool} {ls : List α} {S S' : Nat → Prop} {w w' : World} (h : Asks g lb enc p ls S w) (ht : Turn S w w') (hs : ∀ b, b < w.heap.size → S' b → S b) : Asks g lb enc p ls S' w' :=
  fun x hx X hX => h x hx X (ht.trans hX (fun b hb hS => hs b hb hS))

set_option maxHeartbeats 4000000 in
set_option maxRecDepth 100000 in
theorem idxS_any {P : Nat → Prop} {S : Nat → Prop} (g : Nat) (lb : Array Value) (eg : ∀ args w, (callFunc g args).run Tryz.prog w = .ok (.enter g args) w) (p : List UInt8 → Bool) (w : World) (A : Option Addr) (ls : List (List UInt8)) (n c : Nat) (hn : ls.length = n) (hmax : n ≤ 140737488351232) (h : SrcS w P A ls) (ha : Asks g lb strV p ls S w) :
    Calls Tryz.prog 84 #[.slice A n c, .func (.func g) #[] lb] w fun e w' => ∃ i : Int, e = .returned (.int .i64 i) ∧ Hit p ls i ∧ Below w.heap.size w w' := by
  have HN := Lib.hid hn
  have H := Lib.hid h
  have HA := Lib.hid ha
  clear hn h ha
  go_enter Tryz.func84, Tryz.ntmps84
  go_wp2_with fail
  go_loopw [8] (fun vi wr => ∃ k : Nat, vi = .int .i64 (k : Int) ∧ k ≤ n ∧ Hid ((ls.take k).any p = false) ∧ Hid (Below w.heap.size w wr)) (fun vi _ => n - (intOf vi).toNat)
  case atStart => exact ⟨0, rfl, Nat.zero_le _, Lib.hid rfl, Lib.hid (Below.refl _ _)⟩
  case round =>
    obtain ⟨k, rfl, hk, HE, HB⟩ := hrel
    by_cases hlt : k < n
    · obtain ⟨pa, x, hx, hat, y2, _, _⟩ := H.out.at (c := c) HN.out hlt HB.out
      have HTK := Lib.hid (show (ls.take (k + 1)).any p = p x by rw [take_snoc ls k x hx, List.any_append, HE.out]; simp)
      have HX := Lib.hid hx
      have CD := HA.out x (List.mem_of_getElem? hx) wr (Turn.of_below HB.out)
      unfold strV at CD
      clear hx
      cases hb : p x with
      | false =>
        rw [hb] at CD HTK
        clear hb
        go_wp2_with (go_at_fn g; go_must (refine CD.mono ?_; rintro e w5 ⟨rfl, b5⟩))
        have B5 := Lib.hid (HB.out.trans (b5.mono HB.out.size))
        clear b5
        go_roundw
        case rel => exact ⟨k + 1, by go_num, hlt, HTK, B5⟩
        case measure => simp [intOf]; omega
      | true =>
        rw [hb] at CD
        have HP := Lib.hid hb
        clear hb
        go_wp2_with (go_at_fn g; go_must (refine CD.mono ?_; rintro e w5 ⟨rfl, b5⟩))
        go_ret
        exact ⟨(k : Int), rfl, .inr ⟨k, x, rfl, HX.out, HP.out, HE.out⟩, HB.out.trans (b5.mono HB.out.size)⟩
    · have HN := Lib.hid (show ls.any p = false by rw [← HE.out, List.take_of_length_le (by rw [HN.out]; omega)])
      go_wp2_with fail
      go_ret
      exact ⟨-1, rfl, .inl ⟨rfl, HN.out⟩, HB.out⟩
theorem enters_idxS : ∀ args w, (callFunc 84 args).run Tryz.prog w = .ok (.enter 84 args) w := enters_of Tryz.func84 (by kernel_rfl) rfl
theorem hasS_any {P : Nat → Prop} {S : Nat → Prop} (g : Nat) (lb : Array Value) (eg : ∀ args w, (callFunc g args).run Tryz.prog w = .ok (.enter g args) w) (p : List UInt8 → Bool) (w : World) (A : Option Addr) (ls : List (List UInt8)) (n c : Nat) (hn : ls.length = n) (hmax : n ≤ 140737488351232) (h : SrcS w P A ls) (ha : Asks g lb strV p ls S w) :
    Calls Tryz.prog 62 #[.slice A n c, .func (.func g) #[] lb] w fun e w' => e = .returned (.bool (ls.any p)) ∧ Below w.heap.size w w' := by
  have CI := Lib.hid (idxS_any g lb eg p w A ls n c hn hmax h ha)
  clear hn hmax h ha
  go_enter Tryz.func62, Tryz.ntmps62
  go_wp2_with fail
  refine CI.out.mono ?_
  rintro e w' ⟨i, rfl, hi, b'⟩
  have hh := hi.any
  clear hi
  go_wp2_with fail
  go_ret
  exact ⟨by rw [← hh]; rfl, b'⟩

def keepB {α : Type} (p : α → Bool) (x : α) : Bool := !p x
theorem keep_all {α : Type} {p : α → Bool} {l : List α} (h : l.any p = false) : l.filter (keepB p) = l := by
  apply List.filter_eq_self.2
  intro x hx
  have := List.any_eq_false.1 h x hx
  simpa [keepB] using this
theorem keep_snoc {α : Type} (p : α → Bool) (l : List α) (k : Nat) (x : α) (h : l[k]? = some x) : (l.take (k + 1)).filter (keepB p) = (l.take k).filter (keepB p) ++ (if p x = true then [] else [x]) := by
  rw [take_snoc l k x h, List.filter_append]
  congr 1
  cases hp : p x <;> simp [keepB, hp]
theorem at_row (t e : TypeId) (sz : Nat) (ht : Tryz.prog.underlying t = some (.slice e)) (hsz : (Tryz.prog.info? e).map (·.size) = some sz) (g n c k : Nat) (hk : k < n) (W : World) :
    (Instr.indexAt t (.slice (some ⟨g, 0, none⟩) n c) (.int .i64 (k : Int))).run Tryz.prog W = .ok (.pointer (some ⟨g, k * sz, none⟩)) W := by
  have := run_at_size t e sz ht hsz ⟨g, 0, none⟩ n c k hk W
  rwa [add_at, Nat.zero_add] at this
theorem strs_app (a b : List (List UInt8)) : strs (a ++ b) = strs a ++ strs b := by simp [strs]
theorem zero_str (w : World) : (zeroValue 9).run Tryz.prog w = .ok (.string ⟨#[]⟩) w := by kernel_rfl

end Go.Proofs.YtdcbcjljmjnopaaGreatDoor.Hop
