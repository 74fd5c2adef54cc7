/-
  Slices of requests: what they read, what the call's own hold, an append of one; a stream of requests that were put, in plain words.
  Conditions: those that each theorem names.
-/
import Derived.Test.YtemgfppclakdmaaGreatDoorOC
namespace Go.Proofs.YtemgfppclakdmaaGreatDoor
open Go.RowKit

/-- A request's parts, and where its slices lie. -/
structure RqE where
  m : ByteArray
  t : ByteArray
  k : Int
  A : Option Addr
  D : Option Addr
  ls : List Fld
  bs : List UInt8
  n : Nat
  c : Nat
  l : Nat
  d : Nat
instance : Inhabited RqE := ⟨⟨ByteArray.empty, ByteArray.empty, 0, none, none, [], [], 0, 0, 0, 0⟩⟩
/-- Its five cells. -/
def RqE.cells (r : RqE) : List Value := [.string r.m, .string r.t, .int .i64 r.k, .slice r.A r.n r.c, .slice r.D r.l r.d]
/-- What it reads, and how much it is. -/
structure RqE.Ok (w : World) (r : RqE) : Prop where
  hn : r.ls.length = r.n
  hl : r.bs.length = r.l
  hm : r.m.size ≤ 1000000000
  ht : r.t.size ≤ 1000000000
  hk : Sta.I64 r.k
  hb : bulkF r.ls ≤ 1000000000
  hd : r.l ≤ 1000000000
  f : SrcF w (fun _ => True) r.A r.ls
  s : Src w (fun _ => True) r.D r.bs
theorem RqE.Ok.below {w w' : World} {r : RqE} (h : r.Ok w) (hb : Below w.heap.size w w') : r.Ok w' :=
  ⟨h.hn, h.hl, h.hm, h.ht, h.hk, h.hb, h.hd, h.f.below hb, h.s.kept (Turn.of_below (S := fun _ => False) hb) (fun _ _ h => h)⟩
/-- What it is put as. -/
def RqE.put (r : RqE) : List UInt8 × Nat := putReqM (bl r.m) (bl r.t) r.k r.ls r.bs
def rqs (L : List RqE) : List Value := L.flatMap RqE.cells
theorem rqs_length (L : List RqE) : (rqs L).length = L.length * 5 := by
  induction L with
  | nil => rfl
  | cons r l ih =>
    show (r.cells ++ rqs l).length = _
    rw [List.length_append, ih, List.length_cons]
    simp [RqE.cells]
    omega
theorem rqs_append (a b : List RqE) : rqs (a ++ b) = rqs a ++ rqs b := by simp [rqs]
theorem rqs_get : ∀ (L : List RqE) (i : Nat) (r : RqE), L[i]? = some r → ∀ j v, r.cells[j]? = some v → (rqs L)[i * 5 + j]? = some v
  | [], i, r, h => by simp at h
  | g :: l, 0, r, h => by
    simp only [List.getElem?_cons_zero, Option.some.injEq] at h
    subst h
    intro j v hv
    show (g.cells ++ rqs l)[0 * 5 + j]? = _
    rw [Nat.zero_mul, Nat.zero_add, List.getElem?_append_left (List.getElem?_eq_some_iff.1 hv).1]
    exact hv
  | g :: l, i + 1, r, h => by
    intro j v hv
    have := rqs_get l i r (by simpa using h) j v hv
    show (g.cells ++ rqs l)[(i + 1) * 5 + j]? = _
    have e : (i + 1) * 5 + j = (i * 5 + j) + 5 := by omega
    rw [e, List.getElem?_append_right (by simp [RqE.cells]), show g.cells.length = 5 from rfl, Nat.add_sub_cancel]
    exact this
/-- A slice value's address reads the requests L. -/
def SrcR (w : World) (P : Nat → Prop) (A : Option Addr) (L : List RqE) : Prop :=
  0 < L.length → ∃ ad : Addr, A = some ad ∧ P ad.block ∧ ad.block < w.heap.size ∧ ∀ i r, L[i]? = some r → ∀ j v, r.cells[j]? = some v → w.cell? (ad.add (i * 5 + j)) = some v
theorem SrcR.turned {w w' : World} {P S : Nat → Prop} {A : Option Addr} {L : List RqE} (h : SrcR w P A L) (ht : Turn S w w') (hS : ∀ k, P k → ¬ S k) : SrcR w' P A L := fun h0 => by
  obtain ⟨ad, h1, h2, h3, h4⟩ := h h0
  refine ⟨ad, h1, h2, Nat.lt_of_lt_of_le h3 ht.size, fun i r hr j v hv => ?_⟩
  have hb : ∀ k, (ad.add k).block = ad.block := fun k => by unfold Addr.add; split <;> rfl
  exact (ht.cell (by rw [hb]; exact h3) (by rw [hb]; exact hS _ h2)).trans (h4 i r hr j v hv)
theorem SrcR.below {w w' : World} {P : Nat → Prop} {A : Option Addr} {L : List RqE} (h : SrcR w P A L) (hb : Below w.heap.size w w') : SrcR w' P A L := h.turned (Turn.of_below (S := fun _ => False) hb) (fun _ _ h => h)
/-- The slice value v is the call's own, at block o (none: nil), and has the requests L. -/
def OwnR (w : World) (v : Value) (o : Option Nat) (L : List RqE) : Prop := w.ownsRow 0 25 5 v L.length (rqs L) ∧ v.ownBlock = o
theorem OwnR.nil (w : World) : OwnR w (.slice none 0 0) none [] := ⟨⟨by simp [rqs], .inl ⟨rfl, rfl⟩⟩, rfl⟩
theorem OwnR.kept {w w' : World} {v : Value} {o : Option Nat} {L : List RqE} {S : Nat → Prop} (h : OwnR w v o L) (ht : Turn S w w') (hS : ∀ k, o = some k → ¬ S k) : OwnR w' v o L := by
  obtain ⟨⟨h1, h2⟩, h3⟩ := h
  refine ⟨⟨h1, ?_⟩, h3⟩
  rcases h2 with h2 | ⟨g, cap, cur, hv, hg, hh, r⟩
  · exact .inl h2
  · refine .inr ⟨g, cap, cur, hv, hg, ?_, r⟩
    have hlt : g < w.heap.size := (Array.getElem?_eq_some_iff.1 hh).1
    rw [ht.block g hlt (hS g (by rw [← h3, hv]; rfl))]
    exact hh
theorem OwnR.lt {w : World} {v : Value} {o : Option Nat} {L : List RqE} (h : OwnR w v o L) (k : Nat) (hk : o = some k) : k < w.heap.size := by
  obtain ⟨⟨_, h2⟩, h3⟩ := h
  rcases h2 with ⟨hv, _⟩ | ⟨g, cap, cur, hv, _, hh, _⟩
  · rw [hv] at h3; rw [← h3] at hk; cases hk
  · rw [hv] at h3
    rw [← h3] at hk
    injection hk with hk
    rw [← hk]
    exact (Array.getElem?_eq_some_iff.1 hh).1
theorem OwnR.src {w : World} {v : Value} {o : Option Nat} {L : List RqE} (h : OwnR w v o L) (P : Nat → Prop) (hP : ∀ k, o = some k → P k) : ∃ A c, v = .slice A L.length c ∧ SrcR w P A L := by
  obtain ⟨⟨h1, h2⟩, h3⟩ := h
  rcases h2 with ⟨hv, hn⟩ | ⟨g, cap, cur, hv, hg, hh, hnc, _, hsz, htk⟩
  · refine ⟨none, 0, by rw [hv, hn], fun h => ?_⟩
    omega
  · refine ⟨some ⟨g, 0, none⟩, cap, hv, fun _ => ⟨_, rfl, hP g (by rw [← h3, hv]; rfl), (Array.getElem?_eq_some_iff.1 hh).1, fun i r hr j u hu => ?_⟩⟩
    have hq := rqs_get L i r hr j u hu
    rw [add_at, Nat.zero_add, cell_of_row w g _ cur 25 (0, 0) hh, ← Array.getElem?_toList]
    rw [← htk, List.getElem?_take] at hq
    split at hq
    · exact hq
    · cases hq
theorem reqInfo : (Tryz.prog.info? 25).map (fun i => (i.zero, i.size, i.bytes)) = some (some (.agg #[.string ⟨#[]⟩, .string ⟨#[]⟩, .int .i64 0, .slice none 0 0, .slice none 0 0]), 5, 88) := by kernel_rfl
theorem reqSize : (Tryz.prog.info? 25).map (·.size) = some 5 := by kernel_rfl
theorem reqParts : ∃ i, Tryz.prog.info? 25 = some i ∧ i.zero = some (.agg #[.string ⟨#[]⟩, .string ⟨#[]⟩, .int .i64 0, .slice none 0 0, .slice none 0 0]) ∧ i.size = 5 ∧ i.bytes = 88 := by
  obtain ⟨i, hi, h⟩ := Option.map_eq_some_iff.1 reqInfo
  simp only [Prod.mk.injEq] at h
  exact ⟨i, hi, h.1, h.2.1, h.2.2⟩
/-- append(v, x), the request x laid in block g. -/
theorem run_push_req (w : World) (v : Value) (o : Option Nat) (L : List RqE) (x : RqE) (h : OwnR w v o L) (g : Nat) (hg : Is w g 25 x.cells) (hlen : L.length ≤ 1000) :
    ∃ (v' : Value) (w' : World) (o' : Option Nat), (Builtin.append_ #[52, 52] 52 #[v, .slice (some ⟨g, 0, none⟩) 1 1]).run Tryz.prog w = .ok v' w' ∧ OwnR w' v' o' (L ++ [x]) ∧
      Turn (fun k => o = some k) w w' ∧ (∀ k, o' = some k → o = some k ∨ w.heap.size ≤ k) := by
  obtain ⟨i, hin, hz, hsz, hby⟩ := reqParts
  obtain ⟨hown, ho⟩ := h
  obtain ⟨v', w', hrun, h2, h3, _, h5⟩ := run_append_own_at (P := Tryz.prog) w 0 52 52 25 i (.agg #[.string ⟨#[]⟩, .string ⟨#[]⟩, .int .i64 0, .slice none 0 0, .slice none 0 0]) 5 88 Tryz.underlying52 hin hz hsz hby rfl (by omega) v L.length (rqs L) hown ⟨g, 0, none⟩ 1 1 x.cells
    rfl (fun j u hu => by rw [add_at, Nat.zero_add, hg.cell]; exact hu) (fun u hu => by simp [RqE.cells] at hu; rcases hu with rfl | rfl | rfl | rfl | rfl <;> rfl) (by simp only [maxLen]; omega) (by omega) (Nat.zero_le _)
  refine ⟨v', w', v'.ownBlock, hrun, ⟨?_, rfl⟩, Turn.of_grown (S := fun k => o = some k) h3 (fun k hk => by rw [← ho]; exact hk), fun k hk => ?_⟩
  · rw [List.length_append, rqs_append]
    exact h2
  · rcases h5 with h | h
    · left; rw [← ho, ← h, hk]
    · right
      rw [h] at hk
      injection hk with hk
      omega
/-- What a stream of requests is put as; those that are put. -/
def inR (L : List RqE) : List UInt8 := L.flatMap fun r => if r.put.2 = 0 then r.put.1 else []
def wantR (L : List RqE) : List RqE := L.filter fun r => decide (r.put.2 = 0)
theorem inR_cons (r : RqE) (l : List RqE) : inR (r :: l) = (if r.put.2 = 0 then r.put.1 else []) ++ inR l := rfl
theorem inR_append (a b : List RqE) : inR (a ++ b) = inR a ++ inR b := by simp [inR]
theorem inR_one (r : RqE) : inR [r] = if r.put.2 = 0 then r.put.1 else [] := by rw [inR_cons]; simp [inR]
theorem inR_want (L : List RqE) : inR (wantR L) = inR L := by
  induction L with
  | nil => rfl
  | cons r l ih =>
    by_cases h : r.put.2 = 0
    · rw [show wantR (r :: l) = r :: wantR l by simp [wantR, h], inR_cons, inR_cons, ih]
    · rw [show wantR (r :: l) = wantR l by simp [wantR, h], inR_cons, if_neg h, List.nil_append, ih]
theorem wantR_append (a b : List RqE) : wantR (a ++ b) = wantR a ++ wantR b := by simp [wantR]
theorem wantR_one (r : RqE) : wantR [r] = if r.put.2 = 0 then [r] else [] := by
  by_cases h : r.put.2 = 0 <;> simp [wantR, h]
theorem wantR_mem {L : List RqE} {r : RqE} (h : r ∈ wantR L) : r ∈ L ∧ r.put.2 = 0 := by
  have := List.mem_filter.1 h
  exact ⟨this.1, by simpa using this.2⟩
theorem wantR_length (L : List RqE) : (wantR L).length ≤ L.length := List.length_filter_le _ _
theorem inR_length (L : List RqE) : (inR L).length ≤ L.length * 6144 := by
  induction L with
  | nil => exact Nat.le_refl _
  | cons r l ih =>
    have h1 : (if r.put.2 = 0 then r.put.1 else []).length ≤ 6144 := by
      by_cases h : r.put.2 = 0
      · rw [if_pos h]
        exact putReq_len (show putReqM (bl r.m) (bl r.t) r.k r.ls r.bs = (r.put.1, 0) by rw [← h]; rfl)
      · rw [if_neg h]; simp
    rw [inR_cons, List.length_append, List.length_cons]
    omega
/-- The first of a stream is read as it was put. -/
theorem stream_head (r : RqE) (rest : List UInt8) (h : r.put.2 = 0) :
    requestM (r.put.1 ++ rest) = (some ((bl r.m, bl r.t, r.k.toNat), withCL r.ls r.bs.length (decide (r.bs ≠ [])), r.bs), r.put.1.length, 0) ∧ (r.k.toNat : Int) = r.k ∧ r.ls.length ≤ (withCL r.ls r.bs.length (decide (r.bs ≠ []))).length := by
  obtain ⟨h1, h2, _⟩ := putReq_back (show putReqM (bl r.m) (bl r.t) r.k r.ls r.bs = (r.put.1, 0) by rw [← h]; rfl)
  refine ⟨?_, h2, by rw [withCL_length]; omega⟩
  rw [request_stays _ _ (by rw [h1]; simp), h1]
end Go.Proofs.YtemgfppclakdmaaGreatDoor
