/-
  Slices of slices of bytes; what the reference's Put answers.
  Conditions: those that each theorem names.
-/
import Derived.Test.YtilgljnmdfejmaaDoorCB
import Derived.Test.YtilgljnmdfejmaaDoorTP
import Derived.Test.YtilgljnmdfejmaaDoorNG
import Derived.Test.YtilgljnmdfejmaaDoorHI
namespace Go.Proofs.YtilgljnmdfejmaaDoor
open Go.RowKit

/-- A slice value's address reads these slices of bytes. -/
def SrcL (w : World) (A : Option Addr) (ps : List (List UInt8)) : Prop :=
  0 < ps.length → ∃ ad : Addr, A = some ad ∧ ad.block < w.heap.size ∧ ∀ i x, ps[i]? = some x → ∃ Ax cx, w.cell? (ad.add i) = some (.slice Ax x.length cx) ∧ x.length ≤ cx ∧ Src w (fun _ => True) Ax x
theorem SrcL.at {w wr : World} {A : Option Addr} {ps : List (List UInt8)} {n c k : Nat} (h : SrcL w A ps) (hn : ps.length = n) (hlt : k < n) (hB : Below w.heap.size w wr) :
    ∃ (p : Addr) (x : List UInt8) (Ax : Option Addr) (cx : Nat), ps[k]? = some x ∧ (∀ Wx, (Instr.indexAt 31 (.slice A n c) (.int .i64 (k : Int))).run Tryd.prog Wx = .ok (.pointer (some p)) Wx) ∧ wr.cell? p = some (.slice Ax x.length cx) ∧ p.block < w.heap.size ∧ x.length ≤ cx ∧ Src wr (fun _ => True) Ax x := by
  obtain ⟨ad, hA, hadb, hc⟩ := h (by omega)
  obtain ⟨x, hx⟩ : ∃ x, ps[k]? = some x := ⟨ps[k]'(by omega), List.getElem?_eq_getElem _⟩
  obtain ⟨Ax, cx, c1, c2, c3⟩ := hc k x hx
  have hblk : (ad.add k).block = ad.block := by unfold Addr.add; split <;> rfl
  refine ⟨ad.add k, x, Ax, cx, hx, fun Wx => ?_, (hB.cell (by rw [hblk]; exact hadb)).trans c1, by rw [hblk]; exact hadb, c2, c3.kept (Turn.of_below (S := fun _ => False) hB) (fun _ _ h => h)⟩
  rw [hA]
  exact run_at 31 22 Tryd.underlying31 (by kernel_rfl) ad n c k hlt Wx
theorem totalF_take (ps : List (List UInt8)) (k : Nat) : totalF (ps.take k) ≤ totalF ps := by
  unfold totalF
  rw [List.map_take]
  have := List.take_append_drop k (ps.map List.length)
  have h : ((ps.map List.length).take k ++ (ps.map List.length).drop k).sum = (ps.map List.length).sum := by rw [this]
  rw [List.sum_append] at h
  omega
theorem totalF_snoc (ps : List (List UInt8)) (x : List UInt8) : totalF (ps ++ [x]) = totalF ps + x.length := by simp [totalF]
theorem chunks_length (ps : List (List UInt8)) (h : totalF ps ≤ 4096) : (ps.flatMap chunkF).length ≤ 9 * totalF ps := by
  induction ps with
  | nil => simp
  | cons p r ih =>
    have e : totalF (p :: r) = p.length + totalF r := by simp [totalF]
    rw [e] at h ⊢
    rw [List.flatMap_cons, List.length_append]
    have h1 := ih (by omega)
    have h2 : (chunkF p).length ≤ 9 * p.length := by
      unfold chunkF
      split
      · simp
      · next hp =>
        have hp0 : p.length ≠ 0 := fun e => hp (List.eq_nil_of_length_eq_zero e)
        have := hex_length p.length (by omega)
        simp
        omega
    omega
/-- What Put tells, as memory. -/
def PutGot8 (R : List UInt8 × Nat) (w : World) (e : Ending) (w' : World) : Prop :=
  ∃ v o, e = .returned (.tuple #[v, .int .i64 (R.2 : Int)]) ∧ Own w' v o R.1 ∧ (∀ b, o = some b → w.heap.size ≤ b) ∧ Below w.heap.size w w'

set_option maxHeartbeats 16000000 in
set_option maxRecDepth 100000 in
theorem rput_parts (w : World) (A : Option Addr) (ps : List (List UInt8)) (n c : Nat) (hn : ps.length = n) (hmax : n ≤ 5864062014805) (h : SrcL w A ps) (hs : ∀ x ∈ ps, x.length ≤ 140737488351232) :
    Calls Tryd.prog 13 #[.slice A n c] w (PutGot8 (putC ps) w) := by
  have HN := Lib.hid hn
  have H := Lib.hid h
  have HS := Lib.hid hs
  obtain ⟨R, hR⟩ : ∃ R, putC ps = R := ⟨_, rfl⟩
  rw [hR]
  have HR := Lib.hid hR
  clear hn h hs hR
  go_enter Tryd.func13, Tryd.ntmps13
  go_wp2_with fail
  go_loopw [4, 5, 6, 7, 8] (fun vt vb vi v7 v8 wr => ∃ (k T : Nat) (o : Option Nat) (out : List UInt8), vi = .int .i64 (k : Int) ∧ vt = .int .i64 (T : Int) ∧ k ≤ n ∧ T ≤ 4096 ∧ Hid (totalF (ps.take k) = T) ∧ Hid ((ps.take k).flatMap chunkF = out) ∧ Hid (Own wr vb o out) ∧ Hid (∀ b, o = some b → w.heap.size ≤ b) ∧ Hid (Below w.heap.size w wr)) (fun _ _ vi _ _ _ => n - (intOf vi).toNat)
  case atStart => exact ⟨0, 0, none, [], rfl, rfl, Nat.zero_le _, by omega, Lib.hid rfl, Lib.hid rfl, Lib.hid (Own.nil _), Lib.hid (fun _ h => by cases h), Lib.hid (Below.refl _ _)⟩
  case round =>
    obtain ⟨k, T, o, out, rfl, rfl, hk, hT, HT, HO, HW, HOB, HB⟩ := hrel
    have hol : out.length ≤ 36864 := by
      have := chunks_length (ps.take k) (by rw [HT.out]; exact hT)
      rw [HO.out, HT.out] at this
      omega
    by_cases hlt : k < n
    · obtain ⟨p, x, Ax, cx, hx, hat, y0, hpb, hcx, hsx⟩ := H.out.at (c := c) HN.out hlt HB.out
      have hxl := HS.out x (List.mem_of_getElem? hx)
      have HT2 := Lib.hid (show totalF (ps.take (k + 1)) = T + x.length by rw [take_snoc ps k x hx, totalF_snoc, HT.out])
      have HO2 := Lib.hid (show (ps.take (k + 1)).flatMap chunkF = out ++ chunkF x by rw [take_snoc ps k x hx, List.flatMap_append, HO.out]; simp)
      by_cases hbig : 4096 < T + x.length
      · have HF := Lib.hid (show R = ([], 21) by
          rw [← HR.out]
          unfold putC
          rw [if_pos]
          have := totalF_take ps (k + 1)
          rw [HT2.out] at this
          omega)
        have e1 : decide ((4096 : Int) < (T : Int) + (x.length : Int)) = true := decide_eq_true (by omega)
        clear hbig hx hsx
        go_wp2_with fail
        go_ret2
        exact ⟨_, none, by rw [HF.out]; rfl, by rw [HF.out]; exact Own.nil _, fun _ h => (by cases h), HB.out⟩
      · have e1 : decide ((4096 : Int) < (T : Int) + (x.length : Int)) = false := decide_eq_false (by omega)
        have hm : x.length ≤ 4096 := by omega
        have hT2 : T + x.length ≤ 4096 := by omega
        by_cases hx0 : x = []
        · subst hx0
          have e2 : decide ((0 : Int) < (([] : List UInt8).length : Int)) = false := rfl
          have e2n : decide (0 < ([] : List UInt8).length) = false := rfl
          have HO3 := Lib.hid (show (ps.take (k + 1)).flatMap chunkF = out by rw [HO2.out]; simp [chunkF])
          clear hbig hx hsx HO2
          go_wp2_with fail
          go_roundw
          case rel => exact ⟨k + 1, T, o, out, by go_num, by simp, hlt, hT, HT2, HO3, HW, HOB, HB⟩
          case measure => simp [intOf]; omega
        · have hx1 : 0 < x.length := List.length_pos_iff.2 hx0
          have e2 : decide ((0 : Int) < (x.length : Int)) = true := decide_eq_true (by omega)
          have e2n : decide (0 < x.length) = true := decide_eq_true hx1
          have CX := Lib.hid (fun X : World => rhextext_any x.length X)
          rw [show writeF 16 x.length = (numF 16 x.length, 0) from if_pos (by unfold Most; omega)] at CX
          unfold RWrote at CX
          simp only at CX
          have hhl := hex_length x.length (by omega)
          have HCH := Lib.hid (show out ++ chunkF x = out ++ numF 16 x.length ++ [13, 10] ++ x ++ [13, 10] by unfold chunkF; rw [if_neg hx0]; simp)
          have hb0 := HB.out.size
          obtain ⟨v1, w1, o1, r1, own1, t1, f1⟩ := run_add_tx w.heap.size wr _ o out ⟨(numF 16 x.length).toArray⟩ HW.out HOB.out hb0 (by rw [← bl_length, bl_mk]; omega)
          rw [bl_mk] at own1
          have b1 := below_own HB.out HOB.out t1
          obtain ⟨v2, w2, o2, r2, own2, t2, f2⟩ := run_add_lit w.heap.size w1 v1 o1 _ [13, 10] own1 f1 b1.size (by rw [List.length_append]; simp; omega) #[.int .u8 13, .int .u8 10] rfl 2 rfl
          have b2 := below_own b1 f1 t2
          have y2 : w2.cell? p = some (.slice Ax x.length cx) := (b2.cell hpb).trans ((HB.out.cell hpb).symm.trans y0)
          obtain ⟨p', x', Ax', cx', hx', hat', y2', _, _, hsx2⟩ := H.out.at (c := c) HN.out hlt b2
          obtain rfl : x' = x := by rw [hx] at hx'; exact (Option.some.inj hx').symm
          obtain rfl : p' = p := by
            have h1 := hat w2
            rw [hat' w2] at h1
            injection h1 with h1
            injection h1 with h1
            exact Option.some.inj h1
          have hax : Ax' = Ax := by rw [y2'] at y2; injection y2 with y2; injection y2
          rw [hax] at hsx2
          obtain ⟨v3, w3, o3, r3, own3, t3, f3⟩ := run_append_src w2 v2 o2 _ x' own2 Ax x'.length cx rfl hsx2 (by simp only [List.length_append, List.length_cons, List.length_nil]; omega)
          have f3' : ∀ b, o3 = some b → w.heap.size ≤ b := fun b hb => by
            rcases f3 with h | h
            · exact f2 b (by rw [← h]; exact hb)
            · rw [h] at hb; injection hb with hb; have := b2.size; omega
          have b3 := below_own b2 f2 t3
          obtain ⟨v4, w4, o4, r4, own4, t4, f4⟩ := run_add_lit w.heap.size w3 v3 o3 _ [13, 10] own3 f3' b3.size (by simp only [List.length_append, List.length_cons, List.length_nil]; omega) #[.int .u8 13, .int .u8 10] rfl 2 rfl
          have b4 := below_own b3 f3' t4
          have R1 := Lib.hid r1
          have R2 := Lib.hid r2
          have R3 := Lib.hid r3
          have R4 := Lib.hid r4
          have O4 := Lib.hid own4
          have F4 := Lib.hid f4
          have B4 := Lib.hid b4
          clear hbig hx hsx r1 r2 r3 r4 own1 own2 own3 own4 t1 t2 t3 t4 f1 f2 f3 f3' f4 b1 b2 b3 b4 hb0 hx0 hx1 hx' hat' y2' hsx2 hax
          go_wp2_with fail
          refine (CX.out _).mono ?_
          rintro e w5 ⟨rfl, rfl⟩
          go_wp2_with (first
            | (at_builtin; refine append_tx_by rfl (.tmp 40) (.tmp 41) 22 9 rfl _ _ v1 w1 rfl rfl R1.out ?_)
            | (at_builtin; refine append_by rfl (.tmp 43) (.tmp 44) 22 rfl _ _ v2 w2 rfl rfl R2.out ?_)
            | (at_builtin; refine append_by rfl (.tmp 46) (.tmp 50) 22 rfl _ _ v3 w3 rfl rfl R3.out ?_)
            | (at_builtin; refine append_by rfl (.tmp 52) (.tmp 53) 22 rfl _ _ v4 w4 rfl rfl R4.out ?_))
          go_roundw
          case rel => exact ⟨k + 1, T + x'.length, o4, _, by go_num, by simp, hlt, hT2, HT2, HO2, by rw [HCH.out]; exact O4, F4, B4⟩
          case measure => simp [intOf]; omega
    · have HF := Lib.hid (show R = (out ++ [48, 13, 10, 13, 10], 0) by
        rw [← HR.out]
        have h1 := HT.out
        have h2 := HO.out
        rw [List.take_of_length_le (by rw [HN.out]; omega)] at h1 h2
        unfold putC codedF endC
        rw [if_neg (by omega), h2])
      obtain ⟨v1, w1, o1, r1, own1, t1, f1⟩ := run_add_lit w.heap.size wr _ o out [48, 13, 10, 13, 10] HW.out HOB.out HB.out.size (by simp; omega) #[.int .u8 48, .int .u8 13, .int .u8 10, .int .u8 13, .int .u8 10] rfl 5 rfl
      have b1 := below_own HB.out HOB.out t1
      have R1 := Lib.hid r1
      have O1 := Lib.hid own1
      have F1 := Lib.hid f1
      have B1 := Lib.hid b1
      clear r1 own1 t1 f1 b1
      go_wp2_with (at_builtin; refine append_by rfl (.tmp 55) (.tmp 56) 22 rfl _ _ v1 w1 rfl rfl R1.out ?_)
      go_ret2
      exact ⟨v1, o1, by rw [HF.out]; rfl, by rw [HF.out]; exact O1.out, F1.out, B1.out⟩
end Go.Proofs.YtilgljnmdfejmaaDoor
