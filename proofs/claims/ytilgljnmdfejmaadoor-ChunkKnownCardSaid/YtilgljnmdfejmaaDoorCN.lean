/-
  The law ChunkPuts: walk.
  Conditions: what the arguments read as; the landed code's contracts.
-/
import Derived.Test.YtilgljnmdfejmaaDoorCL
namespace Go.Proofs.YtilgljnmdfejmaaDoor
open Go.RowKit

/-- The slice value v is the call's own, at block o (none: nil), and has these cells. -/
def OwnV (w : World) (v : Value) (o : Option Nat) (cs : List Value) : Prop := w.ownsRow 0 22 1 v cs.length cs ∧ v.ownBlock = o
/-- The cells are slices that read these parts, none of them in block o. -/
def Parted (w : World) (o : Option Nat) (cs : List Value) (ps : List (List UInt8)) : Prop :=
  cs.length = ps.length ∧ ∀ (i : Nat) (x : List UInt8), ps[i]? = some x → ∃ Ax cx, cs[i]? = some (Value.slice Ax x.length cx) ∧ x.length ≤ cx ∧ Src w (fun b => o ≠ some b ∧ b < w.heap.size) Ax x

theorem OwnV.nil (w : World) : OwnV w (.slice none 0 0) none [] := ⟨⟨rfl, .inl ⟨rfl, rfl⟩⟩, rfl⟩
theorem Parted.nil (w : World) (o : Option Nat) : Parted w o [] [] := ⟨rfl, fun _ _ h => by simp at h⟩
theorem OwnV.lt {w : World} {v : Value} {o : Option Nat} {cs : List Value} (h : OwnV w v o cs) (k : Nat) (hk : o = some k) : k < w.heap.size :=
  (h.1.lt k (h.2.trans hk)).2
theorem OwnV.kept {w w' : World} {v : Value} {o : Option Nat} {cs : List Value} {S : Nat → Prop} (h : OwnV w v o cs) (ht : Turn S w w') (hS : ∀ k, o = some k → ¬ S k) : OwnV w' v o cs := by
  obtain ⟨⟨h1, h2⟩, h3⟩ := h
  refine ⟨⟨h1, ?_⟩, h3⟩
  rcases h2 with h2 | ⟨g, cap, cur, hv, hg, hh, r⟩
  · exact .inl h2
  · refine .inr ⟨g, cap, cur, hv, hg, ?_, r⟩
    have hlt : g < w.heap.size := (Array.getElem?_eq_some_iff.1 hh).1
    rw [ht.block g hlt (hS g (by rw [← h3, hv]; rfl))]
    exact hh
theorem Parted.kept {w w' : World} {o o' : Option Nat} {cs : List Value} {ps : List (List UInt8)} {S : Nat → Prop} (h : Parted w o cs ps) (ht : Turn S w w') (hS : ∀ k, o ≠ some k → k < w.heap.size → ¬ S k ∧ o' ≠ some k) : Parted w' o' cs ps := by
  refine ⟨h.1, fun i x hx => ?_⟩
  obtain ⟨Ax, cx, h1, h2, h3⟩ := h.2 i x hx
  refine ⟨Ax, cx, h1, h2, (h3.kept ht (fun k hk => (hS k hk.1 hk.2).1)).mono (fun k _ hk => ⟨(hS k hk.1 hk.2).2, Nat.lt_of_lt_of_le hk.2 ht.size⟩)⟩
theorem Parted.snoc {w : World} {o : Option Nat} {cs : List Value} {ps : List (List UInt8)} (h : Parted w o cs ps) (Ax : Option Addr) (x : List UInt8) (cx : Nat) (hc : x.length ≤ cx) (hs : Src w (fun b => o ≠ some b ∧ b < w.heap.size) Ax x) : Parted w o (cs ++ [Value.slice Ax x.length cx]) (ps ++ [x]) := by
  refine ⟨by simp [h.1], fun i y hy => ?_⟩
  by_cases hi : i < ps.length
  · rw [List.getElem?_append_left hi] at hy
    rw [List.getElem?_append_left (by rw [h.1]; exact hi)]
    exact h.2 i y hy
  · rw [List.getElem?_append_right (by omega)] at hy
    rw [List.getElem?_append_right (by rw [h.1]; omega), h.1]
    have h0 : i - ps.length = 0 := by
      have := (List.getElem?_eq_some_iff.1 hy).1
      simp at this
      omega
    rw [h0] at hy ⊢
    obtain rfl : x = y := by simpa using hy
    exact ⟨Ax, cx, rfl, hc, hs⟩
theorem slInfo : (Tryd.prog.info? 22).map (fun i => (i.zero, i.size, i.bytes)) = some (some (.slice none 0 0), 1, 24) := by kernel_rfl
theorem slParts : ∃ i, Tryd.prog.info? 22 = some i ∧ i.zero = some (.slice none 0 0) ∧ i.size = 1 ∧ i.bytes = 24 := by
  obtain ⟨i, hi, h⟩ := Option.map_eq_some_iff.1 slInfo
  simp only [Prod.mk.injEq] at h
  exact ⟨i, hi, h.1, h.2.1, h.2.2⟩
/-- append(v, x), x laid down in a block of one cell. -/
theorem run_push_sl (w : World) (v : Value) (o : Option Nat) (cs : List Value) (Ax : Option Addr) (nx cx : Nat) (h : OwnV w v o cs) (hlen : (cs.length + 1) * 24 ≤ 140737488355328) :
    ∃ (v' : Value) (w' : World) (o' : Option Nat), (Builtin.append_ #[31, 31] 31 #[v, .slice (some ⟨w.heap.size, 0, none⟩) 1 1]).run Tryd.prog (w.alloc (.cells #[Value.slice Ax nx cx] 22)) = .ok v' w' ∧ OwnV w' v' o' (cs ++ [Value.slice Ax nx cx]) ∧
      Turn (fun k => o = some k) w w' ∧ (∀ k, o' = some k → o = some k ∨ w.heap.size ≤ k) := by
  have t0 : Turn (fun _ => False) w (w.alloc (.cells #[Value.slice Ax nx cx] 22)) := (Turn.refl _ _).alloc _
  have hi : Is (w.alloc (.cells #[Value.slice Ax nx cx] 22)) w.heap.size 22 [Value.slice Ax nx cx] := Is.made w 22 [Value.slice Ax nx cx]
  obtain ⟨i, hin, hz, hsz, hby⟩ := slParts
  obtain ⟨hown, ho⟩ := h.kept t0 (fun _ _ h => h)
  obtain ⟨v', w', hrun, h2, h3, _, h5⟩ := run_append_own_at (P := Tryd.prog) (w.alloc (.cells #[Value.slice Ax nx cx] 22)) 0 31 31 22 i (.slice none 0 0) 1 24 Tryd.underlying31 hin hz hsz hby rfl (by omega) v cs.length cs hown ⟨w.heap.size, 0, none⟩ 1 1 [Value.slice Ax nx cx]
    rfl (fun j u hu => by rw [add_at, Nat.zero_add, hi.cell]; exact hu) (fun u hu => by simp at hu; subst hu; rfl) (by simp only [maxLen]; omega) (by omega) (Nat.zero_le _)
  refine ⟨v', w', v'.ownBlock, hrun, ⟨?_, rfl⟩, (t0.mono (fun _ _ h => h.elim)).trans (Turn.of_grown (S := fun k => o = some k) h3 (fun k hk => by rw [← ho]; exact hk)) (fun _ _ h => h), fun k hk => ?_⟩
  · rw [List.length_append]
    exact h2
  · rcases h5 with h | h
    · left; rw [← ho, ← h, hk]
    · right
      rw [h] at hk
      injection hk with hk
      simp at hk
      omega
/-- What they read, as slices of bytes. -/
theorem OwnV.srcl {w : World} {v : Value} {o : Option Nat} {cs : List Value} {ps : List (List UInt8)} (h : OwnV w v o cs) (hp : Parted w o cs ps) : ∃ A c, v = .slice A ps.length c ∧ SrcL w A ps := by
  obtain ⟨⟨h1, h2⟩, h3⟩ := h
  rw [hp.1] at h2
  rcases h2 with ⟨hv, hn⟩ | ⟨g, cap, cur, hv, hg, hh, hnc, _, hsz, htk⟩
  · refine ⟨none, 0, by rw [hv, hn], fun h => ?_⟩
    omega
  · refine ⟨some ⟨g, 0, none⟩, cap, hv, fun _ => ⟨_, rfl, (Array.getElem?_eq_some_iff.1 hh).1, fun i x hx => ?_⟩⟩
    obtain ⟨Ax, cx, h4, h5, h6⟩ := hp.2 i x hx
    refine ⟨Ax, cx, ?_, h5, h6.mono (fun _ _ _ => trivial)⟩
    rw [add_at, Nat.zero_add, cell_of_row w g i cur 22 (0, 0) hh, ← Array.getElem?_toList]
    rw [← htk, List.getElem?_take] at h4
    split at h4
    · exact h4
    · cases h4
end Go.Proofs.YtilgljnmdfejmaaDoor

namespace Go.Proofs.YtilgljnmdfejmaaDoor
open Go.RowKit

/-- As SrcL, all of it in blocks below B. -/
def SrcLB (w : World) (B : Nat) (A : Option Addr) (ps : List (List UInt8)) : Prop :=
  0 < ps.length → ∃ ad : Addr, A = some ad ∧ ad.block < B ∧ ad.block < w.heap.size ∧ ∀ (i : Nat) (x : List UInt8), ps[i]? = some x → ∃ Ax cx, w.cell? (ad.add i) = some (Value.slice Ax x.length cx) ∧ x.length ≤ cx ∧ Src w (fun b => b < B) Ax x
theorem SrcLB.whole {w : World} {B : Nat} {A : Option Addr} {ps : List (List UInt8)} (h : SrcLB w B A ps) : SrcL w A ps := fun h0 => by
  obtain ⟨ad, hA, _, hb, hc⟩ := h h0
  refine ⟨ad, hA, hb, fun i x hx => ?_⟩
  obtain ⟨Ax, cx, c1, c2, c3⟩ := hc i x hx
  exact ⟨Ax, cx, c1, c2, c3.mono (fun _ _ _ => trivial)⟩
theorem SrcLB.kept {w w' : World} {B : Nat} {A : Option Addr} {ps : List (List UInt8)} {S : Nat → Prop} (h : SrcLB w B A ps) (ht : Turn S w w') (hS : ∀ k, k < B → ¬ S k) : SrcLB w' B A ps := fun h0 => by
  obtain ⟨ad, hA, hB, hb, hc⟩ := h h0
  refine ⟨ad, hA, hB, Nat.lt_of_lt_of_le hb ht.size, fun i x hx => ?_⟩
  obtain ⟨Ax, cx, c1, c2, c3⟩ := hc i x hx
  have hblk : (ad.add i).block = ad.block := by unfold Addr.add; split <;> rfl
  exact ⟨Ax, cx, (ht.cell (by rw [hblk]; exact hb) (by rw [hblk]; exact hS _ hB)).trans c1, c2, c3.kept ht hS⟩
theorem OwnV.srclb {w : World} {v : Value} {o : Option Nat} {cs : List Value} {ps : List (List UInt8)} (h : OwnV w v o cs) (hp : Parted w o cs ps) : ∃ A c, v = .slice A ps.length c ∧ SrcLB w w.heap.size A ps := by
  obtain ⟨⟨h1, h2⟩, h3⟩ := h
  rw [hp.1] at h2
  rcases h2 with ⟨hv, hn⟩ | ⟨g, cap, cur, hv, hg, hh, hnc, _, hsz, htk⟩
  · refine ⟨none, 0, by rw [hv, hn], fun h => ?_⟩
    omega
  · have hlt := (Array.getElem?_eq_some_iff.1 hh).1
    refine ⟨some ⟨g, 0, none⟩, cap, hv, fun _ => ⟨_, rfl, hlt, hlt, fun i x hx => ?_⟩⟩
    obtain ⟨Ax, cx, h4, h5, h6⟩ := hp.2 i x hx
    refine ⟨Ax, cx, ?_, h5, h6.mono (fun _ _ h => h.2)⟩
    rw [add_at, Nat.zero_add, cell_of_row w g i cur 22 (0, 0) hh, ← Array.getElem?_toList]
    rw [← htk, List.getElem?_take] at h4
    split at h4
    · exact h4
    · cases h4

set_option maxHeartbeats 16000000 in
set_option maxRecDepth 100000 in
theorem puts8_law (HC : ChunkC) (w : World) (A : Option Addr) (ps : List (List UInt8)) (n c : Nat) (hn : ps.length = n) (hmax : n ≤ 5864062014805) (h : SrcL w A ps) (hs : ∀ x ∈ ps, x.length ≤ 140737488351232) (hz : ZeroTab w) :
    Calls Tryd.prog 4 #[.slice A n c] w fun e w' => e = .returned (.bool true) ∧ Below w.heap.size w w' := by
  have CW := Lib.hid (fun (X : World) (hX : Below w.heap.size w X) => awake8_any HC X (hz.below hX))
  have CP := Lib.hid (fun (X : World) (hX : Below w.heap.size w X) (Ao : Option Addr) (co : Nat) (ho : SrcL X Ao ps) => HC.put X Ao ps n co hn hmax ho hs (hz.below hX))
  have CR := Lib.hid (fun (X : World) (hX : Below w.heap.size w X) => rput_parts X A ps n c hn hmax (h.below hX) hs)
  have HN := Lib.hid hn
  have H := Lib.hid h
  have HS := Lib.hid hs
  unfold PutGot8 at CP CR
  clear hn h hs hz HC
  go_enter Tryd.func4, Tryd.ntmps4
  go_wp2_with fail
  go_loopw [3, 5, 14] (fun vo v5 vi wr => ∃ (k : Nat) (o : Option Nat) (cs : List Value), vi = .int .i64 (k : Int) ∧ k ≤ n ∧ Hid (OwnV wr vo o cs) ∧ Hid (Parted wr o cs (ps.take k)) ∧ Hid (∀ b, o = some b → w.heap.size ≤ b) ∧ Hid (Below w.heap.size w wr)) (fun _ _ vi _ => n - (intOf vi).toNat)
  case atStart => exact ⟨0, none, [], rfl, Nat.zero_le _, Lib.hid (OwnV.nil _), Lib.hid (Parted.nil _ _), Lib.hid (fun _ h => by cases h), Lib.hid (Below.refl _ _)⟩
  case round =>
    obtain ⟨k, o, cs, rfl, hk, OW, PT, FO, BW⟩ := hrel
    by_cases hlt : k < n
    · obtain ⟨p, x, Ax, cx, hx, hat, y0, _, _, sx⟩ := H.out.at (c := c) HN.out hlt BW.out
      have hxl := HS.out x (List.mem_of_getElem? hx)
      have t0 : Turn (fun _ => False) wr (wr.alloc (.cells #[] 5)) := (Turn.refl _ _).alloc _
      obtain ⟨v3, w3, o3, r3, own3, t3, f3⟩ := run_append_src (wr.alloc (.cells #[] 5)) _ _ [] x (Own.built wr) Ax x.length cx rfl (sx.kept t0 (fun _ _ h => h)) (by simp; omega)
      rw [List.nil_append] at own3
      have u3 : Turn (fun b => wr.heap.size ≤ b) wr w3 := (t0.mono (fun _ _ h => h.elim)).trans t3 (fun b _ hb => by injection hb with hb; omega)
      have f3' : ∀ b, o3 = some b → wr.heap.size ≤ b := fun b hb => by
        rcases f3 with h | h
        · rw [h] at hb; injection hb with hb; omega
        · rw [h] at hb; injection hb with hb; simp at hb; omega
      have OW3 := OW.out.kept u3 (fun b hb h => by have := OW.out.lt b hb; omega)
      have PT3 := PT.out.kept (o' := o) u3 (fun b hb hb2 => ⟨by omega, hb⟩)
      have hcl : cs.length = k := by rw [PT.out.1, List.length_take, HN.out]; omega
      obtain ⟨A3, c3, hv3, hc3, _, _⟩ := own3.block
      obtain ⟨A3', c3', hv3', s3⟩ := own3.src (fun b => o ≠ some b ∧ b < w3.heap.size) (fun b hb => ⟨fun h => by
        have := OW.out.lt b h
        have := f3' b hb
        omega, own3.lt b hb⟩)
      rw [hv3] at hv3'
      injection hv3' with hA3 _ hcc3
      subst hA3 hv3
      obtain ⟨v5, w5, o5, r5, own5, t5, f5⟩ := run_push_sl w3 _ o cs A3 x.length c3 OW3 (by rw [hcl]; omega)
      have PT5 := (PT3.snoc A3 x c3 hc3 s3).kept (o' := o5) t5 (fun b hb hb2 => ⟨hb, fun h => by
        rcases f5 b h with h | h
        · exact hb h
        · omega⟩)
      have B3 : Below w.heap.size w w3 := below_own (BW.out.alloc BW.out.size _) (fun b hb => by injection hb with hb; have := BW.out.size; omega) t3
      have B5 := below_own B3 FO.out t5
      have FO5 : ∀ b, o5 = some b → w.heap.size ≤ b := fun b hb => by
        rcases f5 b hb with h | h
        · exact FO.out b h
        · have := B3.size; omega
      have HE := Lib.hid (show ps.take (k + 1) = ps.take k ++ [x] from take_snoc ps k x hx)
      rw [← HE.out] at PT5
      have R3 := Lib.hid r3
      have R5 := Lib.hid r5
      have OW5 := Lib.hid own5
      have PT5' := Lib.hid PT5
      have FO5' := Lib.hid FO5
      have B5' := Lib.hid B5
      clear r3 r5 own5 PT5 FO5 B5 B3 f5 t5 OW3 PT3 u3 f3 f3' t3 own3 s3 hx sx t0 hcc3 hcl
      go_wp2_with (first
        | (at_builtin; refine append_by rfl (.tmp 19) (.tmp 20) 22 rfl _ _ _ w3 rfl rfl R3.out ?_)
        | (at_builtin; refine append_by rfl (.tmp 18) (.tmp 22) 31 rfl _ _ _ w5 rfl rfl R5.out ?_))
      go_roundw
      case rel => exact ⟨k + 1, o5, _, by go_num, hlt, OW5, PT5', FO5', B5'⟩
      case measure => simp [intOf]; omega
    · obtain rfl : n = k := by omega
      have HT := Lib.hid (show ps.take n = ps from List.take_of_length_le (by rw [HN.out]; omega))
      rw [HT.out] at PT
      obtain ⟨Ao, co, hvo, so⟩ := OW.out.srclb PT.out
      rw [HN.out] at hvo
      subst hvo
      have C1 := Lib.hid (CP.out _ BW.out Ao co so.whole)
      obtain ⟨BB, hBB⟩ : ∃ BB, wr.heap.size = BB := ⟨_, rfl⟩
      have HBB := Lib.hid hBB
      rw [hBB] at so C1
      have SO := Lib.hid so
      have hrb : (putC ps).1.length ≤ 40000 := by
        unfold putC
        split
        · simp
        · have := chunks_length ps (by omega)
          unfold codedF endC
          simp only [List.length_append, List.length_cons, List.length_nil]
          omega
      generalize putC ps = R at *
      obtain ⟨rb, re⟩ := R
      simp only at C1 CR hrb
      clear so hBB OW PT FO HT CP
      go_wp2_with fail
      refine C1.out.mono ?_
      rintro e w1 ⟨v1, o1, rfl, own1, f1, b1⟩
      obtain ⟨A1, c1, hv1, hc1, s1, g1⟩ := own1.block
      subst hv1
      have b1' : Below wr.heap.size wr w1 := by rw [HBB.out]; exact b1
      have B1 := Lib.hid (BW.out.trans (b1'.mono BW.out.size))
      have S1 := Lib.hid s1
      have G1 := Lib.hid g1
      have F1 := Lib.hid f1
      have SO1 := Lib.hid (SO.out.kept (Turn.of_below (S := fun _ => False) b1') (fun _ _ h => h))
      have HB1 := Lib.hid (show BB ≤ w1.heap.size from by rw [← HBB.out]; exact b1'.size)
      have HBW := Lib.hid (show w.heap.size ≤ BB from by rw [← HBB.out]; exact BW.out.size)
      clear own1 f1 b1 b1' s1 g1 C1
      go_wp2_with fail
      refine (CR.out _ B1.out).mono ?_
      rintro e w2 ⟨v2, o2, rfl, own2, f2, b2⟩
      obtain ⟨A2, c2, hv2, hc2, s2, _⟩ := own2.block
      subst hv2
      have B2 := Lib.hid (B1.out.trans (b2.mono B1.out.size))
      have SO2 := Lib.hid (SO1.out.kept (Turn.of_below (S := fun _ => False) b2) (fun _ _ h => h))
      have G2 := Lib.hid (show 0 < rb.length → ∃ g, A1 = some ⟨g, 0, none⟩ ∧ o1 = some g ∧ BytesAt w2 g rb.length from fun h0 => by
        obtain ⟨g, h1, h2, h3⟩ := G1.out h0
        exact ⟨g, h1, h2, h3.kept (Turn.of_below (S := fun _ => False) b2) (fun h => h)⟩)
      have CE := Lib.hid (bequal_any w2 A1 A2 rb rb rb.length c1 rb.length c2 rfl rfl (S1.out.kept (Turn.of_below (S := fun _ => False) b2) (fun _ _ h => h)) s2)
      rw [show (rb == rb) = true by simp] at CE
      have e1 : ((re : Int) == (re : Int)) = true := by simp
      clear own2 f2 b2 s2 S1 G1 SO1 CR
      go_wp2_with fail
      refine CE.out.mono ?_
      rintro e w3 ⟨rfl, rfl⟩
      go_wp2_with fail
      go_loopw [46, 10] (fun vi v1 wr => ∃ k : Nat, vi = .int .i64 (k : Int) ∧ k ≤ rb.length ∧ Hid (Turn (fun b => o1 = some b) w2 wr) ∧ Hid (0 < rb.length → ∃ g, A1 = some ⟨g, 0, none⟩ ∧ o1 = some g ∧ BytesAt wr g rb.length)) (fun vi _ _ => rb.length - (intOf vi).toNat)
      case atStart => exact ⟨0, rfl, Nat.zero_le _, Lib.hid (Turn.refl _ _), G2⟩
      case round =>
        obtain ⟨k, rfl, hk, HT, HG⟩ := hrel
        by_cases hlt : k < rb.length
        · obtain ⟨g, hA2, ho2, hby⟩ := HG.out (by omega)
          subst hA2
          obtain ⟨d, y0, yf⟩ := hby.cell k hlt
          obtain ⟨d', hx⟩ := xor_byte d
          have hat := run_at 22 5 Tryd.underlying22 (by kernel_rfl) ⟨g, 0, none⟩ rb.length c1 k hlt
          rw [add_at, Nat.zero_add] at hat
          have HT2 := Lib.hid (HT.out.setCell (p := ⟨g, k, none⟩) (fun _ => ho2) (.int .u8 (d'.toNat : Int)))
          have HG2 := Lib.hid (show 0 < rb.length → ∃ g', (some ⟨g, 0, none⟩ : Option Addr) = some ⟨g', 0, none⟩ ∧ o1 = some g' ∧ BytesAt (wr.setCell ⟨g, k, none⟩ (.int .u8 (d'.toNat : Int))) g' rb.length from fun _ => ⟨g, rfl, ho2, hby.set k d'⟩)
          clear hby
          go_wp2_with fail
          go_roundw
          case rel => exact ⟨k + 1, by go_num, hlt, HT2, HG2⟩
          case measure => simp [intOf]; omega
        · have hBr := below_own B2.out (fun b hb => Nat.le_trans HBW.out (F1.out b hb)) HT.out
          have BR := Lib.hid hBr
          have SOR := Lib.hid ((SO2.out.kept HT.out (fun b hb h => by have := F1.out b h; omega)).whole)
          clear hBr
          go_wp2_with fail
          go_loopw [58, 11] (fun vi v1 wr => ∃ k : Nat, vi = .int .i64 (k : Int) ∧ k ≤ n ∧ Hid (SrcL wr Ao ps) ∧ Hid (Below w.heap.size w wr)) (fun vi _ _ => n - (intOf vi).toNat)
          case atStart => exact ⟨0, rfl, Nat.zero_le _, SOR, BR⟩
          case round =>
            obtain ⟨i, rfl, hi, SX, BX⟩ := hrel
            by_cases hil : i < n
            · obtain ⟨p, x, Ax, cx, hx, hat, y0, _, _, sx⟩ := H.out.at (c := c) HN.out hil BX.out
              obtain ⟨p', x', Ax', cx', hx', hat', y0', _, _, sx'⟩ := SX.out.at (c := co) HN.out hil (Below.refl _ _)
              rw [hx] at hx'
              obtain rfl : x = x' := by injection hx'
              have CQ := Lib.hid (fun (X : World) (hX : Quiet wr X) => show Calls Tryd.prog 10 #[.slice Ax' x.length cx', .slice Ax x.length cx] X fun e w' => e = .returned (.bool true) ∧ w' = X from (bequal_any X Ax' Ax x x x.length cx' x.length cx rfl rfl (sx'.kept (S := fun _ => False) hX.turn (fun _ _ h => h)) (sx.kept (S := fun _ => False) hX.turn (fun _ _ h => h))).mono (fun e w' ⟨h1, h2⟩ => ⟨by rw [h1]; simp, h2.symm⟩))
              clear hx hx' sx sx'
              go_wp2_with fail
              go_quiet ((go_at_call 10; exact Calls.quiet_of_same (CQ.out _ ⟨_, rfl⟩)))
              go_wp2_with fail
              have BN : Below wr.heap.size wr (wr.drewN nq) := ⟨rfl, rfl, rfl, Nat.le_refl _, fun _ _ => rfl⟩
              exact ⟨⟨i + 1, by go_num, hil, Lib.hid (SX.out.below BN), Lib.hid (BX.out.trans (BN.mono BX.out.size))⟩, by simp [intOf]; omega⟩
            · go_wp2_with fail
              refine (CW.out _ BX.out).mono ?_
              rintro e w8 ⟨rfl, b8⟩
              have B8 := Lib.hid (BX.out.trans (b8.mono BX.out.size))
              clear b8
              go_wp2_with fail
              go_ret
              exact ⟨rfl, B8.out⟩
end Go.Proofs.YtilgljnmdfejmaaDoor
