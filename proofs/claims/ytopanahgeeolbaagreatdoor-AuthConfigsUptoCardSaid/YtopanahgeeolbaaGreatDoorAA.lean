/-
  Rules: which may be, which match, what they admit, in plain words; what they are in memory: slices of them, an append of one, an append of several.
  Conditions: those that each theorem names.
-/
import Derived.Test.YtopanahgeeolbaaGreatDoorRS
import Derived.Test.YtopanahgeeolbaaGreatDoorYA
import Derived.Lib.AtoiErrMem
namespace Go.Proofs.YtopanahgeeolbaaGreatDoor.Acl
open Go.RowKit

/-- A rule's parts, and where its Methods lie. -/
structure RuE where
  al : Bool
  h : ByteArray
  lo : Int
  hi : Int
  A : Option Addr
  n : Nat
  c : Nat
  ms : List (List UInt8)
instance : Inhabited RuE := ⟨⟨false, ByteArray.empty, 0, 0, none, 0, 0, []⟩⟩
/-- Its five cells. -/
def RuE.cells (r : RuE) : List Value := [.bool r.al, .string r.h, .int .i64 r.lo, .int .i64 r.hi, .slice r.A r.n r.c]
def RuE.val (r : RuE) : Value := .agg #[.bool r.al, .string r.h, .int .i64 r.lo, .int .i64 r.hi, .slice r.A r.n r.c]
/-- What its Methods read, and how many there are. -/
structure RuE.Ok (w : World) (r : RuE) : Prop where
  hn : r.ms.length = r.n
  hm : r.n ≤ 140737488351232
  s : SrcS w (fun _ => True) r.A r.ms
theorem srcs_below {w w' : World} {P : Nat → Prop} {A : Option Addr} {ls : List (List UInt8)} (h : SrcS w P A ls) (hb : Below w.heap.size w w') : SrcS w' P A ls := fun h0 => by
  obtain ⟨ad, hA, hP, hadb, hc⟩ := h h0
  exact ⟨ad, hA, hP, Nat.lt_of_lt_of_le hadb hb.size, fun i l hl => (hb.cell (Lib.lt_of_cell (hc i l hl))).trans (hc i l hl)⟩
theorem srcs_nil (w : World) (P : Nat → Prop) (A : Option Addr) : SrcS w P A [] := fun h0 => absurd h0 (by simp)
theorem srcs_is {w : World} {g : Nat} {ls : List (List UInt8)} (h : Is w g 9 (strs ls)) : SrcS w (fun _ => True) (some ⟨g, 0, none⟩) ls := fun _ => ⟨_, rfl, trivial, h.lt, fun i l hl => by
  rw [add_at, h.cell]
  simp [strs, hl]⟩
theorem RuE.Ok.below {w w' : World} {r : RuE} (h : r.Ok w) (hb : Below w.heap.size w w') : r.Ok w' := ⟨h.hn, h.hm, srcs_below h.s hb⟩
/-- Does the name that begins with '.' stand for the host? -/
def endsF (nm h : List UInt8) : Bool := decide (nm.length < h.length) && (h.drop (h.length - nm.length) == nm)
def coversF (nm h : List UInt8) : Bool := if nm.head? = some 46 then endsF nm h else nm == [42] || nm == h
def portF (r : RuE) (p : Int) : Bool := decide (r.lo ≤ p) && decide (p ≤ r.hi)
def methF (r : RuE) (m : List UInt8) : Bool := r.ms.isEmpty || r.ms.any (fun x => x == m)
/-- Does the rule match? -/
def matchF (h : List UInt8) (p : Int) (m : List UInt8) (r : RuE) : Bool := coversF (bl r.h) h && (portF r p && methF r m)
/-- What rules admit. -/
def admitF (L : List RuE) (h : List UInt8) (p : Int) (m : List UInt8) : Bool := match L.find? (matchF h p m) with
  | some r => r.al
  | none => false
def trimF (s : List UInt8) : List UInt8 := if s.head? = some 46 then s.tail else s
def hostF (s : List UInt8) : Bool := s == [42] || Uri.namedF (trimF s)
def numsF (r : RuE) : Bool := decide (1 ≤ r.lo) && (decide (r.lo ≤ r.hi) && decide (r.hi ≤ 65535))
/-- May the rule be? -/
def mayF (r : RuE) : Bool := hostF (bl r.h) && (numsF r && (decide (r.n ≤ 8) && r.ms.all tokF))
def allF (L : List RuE) : Bool := decide (L.length ≤ 16) && L.all mayF

def rus (L : List RuE) : List Value := L.flatMap RuE.cells
theorem rus_length (L : List RuE) : (rus L).length = L.length * 5 := by
  induction L with
  | nil => rfl
  | cons r l ih =>
    show (r.cells ++ rus l).length = _
    rw [List.length_append, ih, List.length_cons]
    simp [RuE.cells]
    omega
theorem rus_append (a b : List RuE) : rus (a ++ b) = rus a ++ rus b := by simp [rus]
theorem rus_get : ∀ (L : List RuE) (i : Nat) (r : RuE), L[i]? = some r → ∀ j v, r.cells[j]? = some v → (rus L)[i * 5 + j]? = some v
  | [], i, r, h => by simp at h
  | g :: l, 0, r, h => by
    simp only [List.getElem?_cons_zero, Option.some.injEq] at h
    subst h
    intro j v hv
    show (g.cells ++ rus l)[0 * 5 + j]? = _
    rw [Nat.zero_mul, Nat.zero_add, List.getElem?_append_left (List.getElem?_eq_some_iff.1 hv).1]
    exact hv
  | g :: l, i + 1, r, h => by
    intro j v hv
    have := rus_get l i r (by simpa using h) j v hv
    show (g.cells ++ rus l)[(i + 1) * 5 + j]? = _
    have e : (i + 1) * 5 + j = (i * 5 + j) + 5 := by omega
    rw [e, List.getElem?_append_right (by simp [RuE.cells]), show g.cells.length = 5 from rfl, Nat.add_sub_cancel]
    exact this
theorem rus_at (L : List RuE) (j : Nat) (hj : j < L.length * 5) : ∃ r v, L[j / 5]? = some r ∧ r.cells[j % 5]? = some v ∧ (rus L)[j]? = some v := by
  obtain ⟨r, hr⟩ : ∃ r, L[j / 5]? = some r := ⟨L[j / 5]'(by omega), List.getElem?_eq_getElem _⟩
  have h5 : j % 5 < r.cells.length := Nat.mod_lt _ (by decide)
  have := rus_get L (j / 5) r hr (j % 5) _ (List.getElem?_eq_getElem h5)
  rw [show j / 5 * 5 + j % 5 = j by omega] at this
  exact ⟨r, _, hr, List.getElem?_eq_getElem h5, this⟩
theorem rus_one (L : List RuE) : ∀ v ∈ rus L, v.oneCell' = true := by
  intro v hv
  obtain ⟨f, _, h⟩ := List.mem_flatMap.1 hv
  simp [RuE.cells] at h
  rcases h with rfl | rfl | rfl | rfl | rfl <;> rfl
/-- A slice value's address reads the rules L. -/
def SrcU (w : World) (P : Nat → Prop) (A : Option Addr) (L : List RuE) : Prop :=
  0 < L.length → ∃ ad : Addr, A = some ad ∧ P ad.block ∧ ad.block < w.heap.size ∧ ∀ i r, L[i]? = some r → ∀ j v, r.cells[j]? = some v → w.cell? (ad.add (i * 5 + j)) = some v
theorem SrcU.turned {w w' : World} {P S : Nat → Prop} {A : Option Addr} {L : List RuE} (h : SrcU w P A L) (ht : Turn S w w') (hS : ∀ k, P k → ¬ S k) : SrcU w' P A L := fun h0 => by
  obtain ⟨ad, h1, h2, h3, h4⟩ := h h0
  refine ⟨ad, h1, h2, Nat.lt_of_lt_of_le h3 ht.size, fun i r hr j v hv => ?_⟩
  have hb : ∀ k, (ad.add k).block = ad.block := fun k => by unfold Addr.add; split <;> rfl
  exact (ht.cell (by rw [hb]; exact h3) (by rw [hb]; exact hS _ h2)).trans (h4 i r hr j v hv)
theorem SrcU.below {w w' : World} {P : Nat → Prop} {A : Option Addr} {L : List RuE} (h : SrcU w P A L) (hb : Below w.heap.size w w') : SrcU w' P A L := h.turned (Turn.of_below (S := fun _ => False) hb) (fun _ _ h => h)
theorem SrcU.mono {w : World} {P P' : Nat → Prop} {A : Option Addr} {L : List RuE} (h : SrcU w P A L) (hp : ∀ k, k < w.heap.size → P k → P' k) : SrcU w P' A L := fun h0 => by
  obtain ⟨ad, h1, h2, h3, h4⟩ := h h0
  exact ⟨ad, h1, hp _ h3 h2, h3, h4⟩
theorem SrcU.take {w : World} {P : Nat → Prop} {A : Option Addr} {L : List RuE} (h : SrcU w P A L) (k : Nat) : SrcU w P A (L.take k) := fun h0 => by
  obtain ⟨ad, h1, h2, h3, h4⟩ := h (by rw [List.length_take] at h0; omega)
  refine ⟨ad, h1, h2, h3, fun i r hr => h4 i r ?_⟩
  rw [List.getElem?_take] at hr
  split at hr
  · exact hr
  · cases hr
/-- The slice value v is the call's own, at block o (none: nil), and has the rules L. -/
def OwnU (w : World) (v : Value) (o : Option Nat) (L : List RuE) : Prop := w.ownsRow 0 51 5 v L.length (rus L) ∧ v.ownBlock = o
theorem OwnU.nil (w : World) : OwnU w (.slice none 0 0) none [] := ⟨⟨by simp [rus], .inl ⟨rfl, rfl⟩⟩, rfl⟩
theorem OwnU.kept {w w' : World} {v : Value} {o : Option Nat} {L : List RuE} {S : Nat → Prop} (h : OwnU w v o L) (ht : Turn S w w') (hS : ∀ k, o = some k → ¬ S k) : OwnU w' v o L := by
  obtain ⟨⟨h1, h2⟩, h3⟩ := h
  refine ⟨⟨h1, ?_⟩, h3⟩
  rcases h2 with h2 | ⟨g, cap, cur, hv, hg, hh, r⟩
  · exact .inl h2
  · refine .inr ⟨g, cap, cur, hv, hg, ?_, r⟩
    have hlt : g < w.heap.size := (Array.getElem?_eq_some_iff.1 hh).1
    rw [ht.block g hlt (hS g (by rw [← h3, hv]; rfl))]
    exact hh
theorem OwnU.below {w w' : World} {v : Value} {o : Option Nat} {L : List RuE} (h : OwnU w v o L) (hb : Below w.heap.size w w') : OwnU w' v o L := h.kept (Turn.of_below (S := fun _ => False) hb) (fun _ _ h => h)
theorem OwnU.lt {w : World} {v : Value} {o : Option Nat} {L : List RuE} (h : OwnU w v o L) (k : Nat) (hk : o = some k) : k < w.heap.size := by
  obtain ⟨⟨_, h2⟩, h3⟩ := h
  rcases h2 with ⟨hv, _⟩ | ⟨g, cap, cur, hv, _, hh, _⟩
  · rw [hv] at h3; rw [← h3] at hk; cases hk
  · rw [hv] at h3
    rw [← h3] at hk
    injection hk with hk
    rw [← hk]
    exact (Array.getElem?_eq_some_iff.1 hh).1
theorem OwnU.src {w : World} {v : Value} {o : Option Nat} {L : List RuE} (h : OwnU w v o L) (P : Nat → Prop) (hP : ∀ k, o = some k → P k) : ∃ A c, v = .slice A L.length c ∧ L.length ≤ c ∧ SrcU w P A L := by
  obtain ⟨⟨h1, h2⟩, h3⟩ := h
  rcases h2 with ⟨hv, hn⟩ | ⟨g, cap, cur, hv, hg, hh, hnc, _, hsz, htk⟩
  · refine ⟨none, 0, by rw [hv, hn], by omega, fun h => ?_⟩
    omega
  · refine ⟨some ⟨g, 0, none⟩, cap, hv, hnc, fun _ => ⟨_, rfl, hP g (by rw [← h3, hv]; rfl), (Array.getElem?_eq_some_iff.1 hh).1, fun i r hr j u hu => ?_⟩⟩
    have hq := rus_get L i r hr j u hu
    rw [add_at, Nat.zero_add, cell_of_row w g _ cur 51 (0, 0) hh, ← Array.getElem?_toList]
    rw [← htk, List.getElem?_take] at hq
    split at hq
    · exact hq
    · cases hq
def ruZ : Value := .agg #[.bool false, .string ⟨#[]⟩, .int .i64 0, .int .i64 0, .slice none 0 0]
theorem ruInfo : (Tryz.prog.info? 51).map (fun i => (i.zero, i.size, i.bytes)) = some (some ruZ, 5, 64) := by kernel_rfl
theorem ruSize : (Tryz.prog.info? 51).map (·.size) = some 5 := by kernel_rfl
theorem ruParts : ∃ i, Tryz.prog.info? 51 = some i ∧ i.zero = some ruZ ∧ i.size = 5 ∧ i.bytes = 64 := by
  obtain ⟨i, hi, h⟩ := Option.map_eq_some_iff.1 ruInfo
  simp only [Prod.mk.injEq] at h
  exact ⟨i, hi, h.1, h.2.1, h.2.2⟩
set_option maxRecDepth 100000 in
/-- append(v, l...), l a slice of rules. -/
theorem run_append_rus {P : Nat → Prop} (w : World) (v : Value) (o : Option Nat) (L news : List RuE) (h : OwnU w v o L) (A : Option Addr) (n c : Nat) (hn : news.length = n) (hs : SrcU w P A news) (hlen : (L.length + news.length) * 64 ≤ 140737488355328) :
    ∃ (v' : Value) (w' : World) (o' : Option Nat), (Builtin.append_ #[25, 25] 25 #[v, .slice A n c]).run Tryz.prog w = .ok v' w' ∧ OwnU w' v' o' (L ++ news) ∧ Turn (fun k => o = some k) w w' ∧ (∀ k, o' = some k → o = some k ∨ w.heap.size ≤ k) := by
  subst hn
  obtain ⟨i, hi, hz, hsz, hby⟩ := ruParts
  obtain ⟨hown, ho⟩ := h
  cases A with
  | none =>
    have hb : news = [] := by
      cases news with
      | nil => rfl
      | cons b l => obtain ⟨ad, hA, _⟩ := hs (by simp); cases hA
    subst hb
    refine ⟨v, w, o, ?_, by rw [List.append_nil]; exact ⟨hown, ho⟩, Turn.refl _ _, fun k hk => .inl hk⟩
    rcases hown.2 with ⟨rfl, _⟩ | ⟨g, cap, cur, rfl, _, _, hnc, _⟩
    · simp [Builtin.append_, run_underlying Tryz.underlying25, sizeOf, typeInfo, hi, Builtin.lenOf, Builtin.firstCells]
    · simp [Builtin.append_, run_underlying Tryz.underlying25, sizeOf, typeInfo, hi, Builtin.lenOf, Builtin.firstCells, hnc, storeCells]
  | some a =>
    have hcells : ∀ j u, (rus news)[j]? = some u → w.cell? (a.add j) = some u := by
      intro j u hu
      have hj : j < news.length * 5 := by
        have := (List.getElem?_eq_some_iff.1 hu).1
        rwa [rus_length] at this
      obtain ⟨ad, hA, _, _, hc⟩ := hs (by omega)
      injection hA with hA
      subst hA
      obtain ⟨r, v2, hr, hv2, hu2⟩ := rus_at news j hj
      have := hc (j / 5) r hr (j % 5) v2 hv2
      rw [show j / 5 * 5 + j % 5 = j by omega] at this
      rw [this, ← hu2, hu]
    obtain ⟨v', w', hrun, h2, h3, _, h5⟩ := run_append_own_at (P := Tryz.prog) w 0 25 25 51 i ruZ 5 64 Tryz.underlying25 hi hz hsz hby rfl (by omega) v L.length (rus L) hown a news.length c (rus news)
      (rus_length news) hcells (rus_one _) (by simp only [maxLen]; omega) hlen (Nat.zero_le _)
    refine ⟨v', w', v'.ownBlock, hrun, ⟨?_, rfl⟩, Turn.of_grown h3 (fun k hk => by rw [← ho]; exact hk), fun k hk => ?_⟩
    · rw [List.length_append, rus_append]
      exact h2
    · rcases h5 with h | h
      · left; rw [← ho, ← h, hk]
      · right
        rw [h] at hk
        injection hk with hk
        omega
/-- One rule laid in block g. -/
theorem srcu_is {w : World} {g : Nat} {r : RuE} (h : Is w g 51 r.cells) : SrcU w (fun _ => True) (some ⟨g, 0, none⟩) [r] := fun _ => ⟨_, rfl, trivial, h.lt, fun i x hx j v hv => by
  match i, hx with
  | 0, hx =>
    simp only [List.getElem?_cons_zero, Option.some.injEq] at hx
    subst hx
    rw [add_at, h.cell]
    simpa using hv
  | i + 1, hx => simp at hx⟩
theorem run_at_size5 (a : Addr) (n c k : Nat) (hk : k < n) (W : World) :
    (Instr.indexAt 25 (.slice (some a) n c) (.int .i64 (k : Int))).run Tryz.prog W = .ok (.pointer (some (a.add (k * 5)))) W := by
  obtain ⟨i, hi, hs⟩ := Option.map_eq_some_iff.1 ruSize
  have h2 : ¬ n ≤ k := by omega
  simp [Instr.indexAt, run_underlying Tryz.underlying25, asIntOf, h2, sizeOf, typeInfo, hi, hs]
/-- &l[k] and the rule's five cells. -/
theorem SrcU.at {w wr : World} {P : Nat → Prop} {A : Option Addr} {L : List RuE} {n c k : Nat} (h : SrcU w P A L) (hn : L.length = n) (hlt : k < n) (hB : Below w.heap.size w wr) :
    ∃ (p : Addr) (r : RuE), L[k]? = some r ∧ (∀ Wx, (Instr.indexAt 25 (.slice A n c) (.int .i64 (k : Int))).run Tryz.prog Wx = .ok (.pointer (some p)) Wx) ∧ p.block < w.heap.size ∧
      wr.cell? p = some (.bool r.al) ∧ wr.cell? ⟨p.block, p.off + 1, none⟩ = some (.string r.h) ∧ wr.cell? ⟨p.block, p.off + 2, none⟩ = some (.int .i64 r.lo) ∧ wr.cell? ⟨p.block, p.off + 3, none⟩ = some (.int .i64 r.hi) ∧ wr.cell? ⟨p.block, p.off + 4, none⟩ = some (.slice r.A r.n r.c) := by
  obtain ⟨ad, hA, hP, hadb, hc⟩ := h (by omega)
  obtain ⟨r, hr⟩ : ∃ r, L[k]? = some r := ⟨L[k]'(by omega), List.getElem?_eq_getElem _⟩
  have hcell : ∀ j v, r.cells[j]? = some v → wr.cell? ((ad.add (k * 5)).add j) = some v := fun j v hv => by
    have c1 := hc k r hr j v hv
    rw [add_add_at]
    exact (hB.cell (Lib.lt_of_cell c1)).trans c1
  have h0 : (ad.add (k * 5)).add 0 = ad.add (k * 5) := by rw [add_add_at, Nat.add_zero]
  refine ⟨ad.add (k * 5), r, hr, fun Wx => ?_, ?_, ?_, hcell 1 _ rfl, hcell 2 _ rfl, hcell 3 _ rfl, hcell 4 _ rfl⟩
  · rw [hA]
    exact run_at_size5 ad n c k hlt Wx
  · unfold Addr.add; split <;> exact hadb
  · have := hcell 0 _ (show r.cells[0]? = some (.bool r.al) from rfl)
    rwa [h0] at this
end Go.Proofs.YtopanahgeeolbaaGreatDoor.Acl
