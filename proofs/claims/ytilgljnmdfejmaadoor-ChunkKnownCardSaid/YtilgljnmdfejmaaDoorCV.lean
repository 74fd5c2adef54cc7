/-
  The law ChunkKnown: walk.
  Conditions: the landed code's contracts; Go's table of trailing zeros is as its text lays it.
-/
import Derived.Test.YtilgljnmdfejmaaDoorCG
import Derived.Test.YtilgljnmdfejmaaDoorCR
import Derived.Test.YtilgljnmdfejmaaDoorCS
namespace Go.Proofs.YtilgljnmdfejmaaDoor
open Go.RowKit

/-- A row of the law's table. -/
abbrev Rk := ByteArray × ByteArray × Nat × Nat
def rkV (r : Rk) : List Value := [.string r.1, .string r.2.1, .int .i64 (r.2.2.1 : Int), .int .i64 (r.2.2.2 : Int)]
def RkOk (r : Rk) : Prop := takeF (bl r.1) = (bl r.2.1, r.2.2.1, r.2.2.2) ∧ r.1.size ≤ 100
def rks (l : List Rk) : List Value := l.flatMap rkV
theorem rks_get : ∀ (l : List Rk) (k j : Nat) (r : Rk), l[k]? = some r → j < 4 → (rks l)[k * 4 + j]? = (rkV r)[j]?
  | [], k, j, r, h, _ => by simp at h
  | x :: t, 0, j, r, h, hj => by
    obtain rfl : x = r := by simpa using h
    show (rkV x ++ rks t)[0 * 4 + j]? = _
    rw [List.getElem?_append_left (by show 0 * 4 + j < 4; omega)]
    congr 1
    omega
  | x :: t, k + 1, j, r, h, hj => by
    have := rks_get t k j r (by simpa using h) hj
    show (rkV x ++ rks t)[(k + 1) * 4 + j]? = _
    rw [List.getElem?_append_right (by show 4 ≤ _; omega), ← this]
    congr 1
    show (k + 1) * 4 + j - 4 = _
    omega
theorem rkSize : (Tryd.prog.info? 41).map (·.size) = some 4 := by kernel_rfl
theorem rk_at (T : List Rk) {w16 wr : World} {g : Nat} (hl : T.length = 19) (hi : Is w16 g 41 (rks T)) (hok : ∀ r ∈ T, RkOk r) (k : Nat) (hk : k < 19) (hb : Below w16.heap.size w16 wr) :
    ∃ (p : Addr) (r : Rk), RkOk r ∧ (∀ X, (Instr.indexAt 42 (.slice (some ⟨g, 0, none⟩) 19 19) (.int .i64 (k : Int))).run Tryd.prog X = .ok (.pointer (some p)) X) ∧
      wr.cell? p = some (.string r.1) ∧ wr.cell? ⟨p.block, p.off + 1, none⟩ = some (.string r.2.1) ∧ wr.cell? ⟨p.block, p.off + 2, none⟩ = some (.int .i64 (r.2.2.1 : Int)) ∧
      wr.cell? ⟨p.block, p.off + 3, none⟩ = some (.int .i64 (r.2.2.2 : Int)) := by
  obtain ⟨r, hr⟩ : ∃ r, T[k]? = some r := ⟨T[k]'(by omega), List.getElem?_eq_getElem _⟩
  have hj : Is wr g 41 (rks T) := hi.kept (Turn.of_below (S := fun _ => False) hb) (fun h => h)
  refine ⟨⟨g, k * 4, none⟩, r, hok r (List.mem_of_getElem? hr), fun X => ?_, ?_, ?_, ?_, ?_⟩
  · have := run_at_size 42 41 4 Tryd.underlying42 rkSize ⟨g, 0, none⟩ 19 19 k hk X
    rw [add_at, Nat.zero_add] at this
    exact this
  · exact (hj.cell (k * 4)).trans (rks_get T k 0 r hr (by omega))
  · exact (hj.cell (k * 4 + 1)).trans (rks_get T k 1 r hr (by omega))
  · exact (hj.cell (k * 4 + 2)).trans (rks_get T k 2 r hr (by omega))
  · exact (hj.cell (k * 4 + 3)).trans (rks_get T k 3 r hr (by omega))
/-- []byte(s), its capacity told. -/
theorem run_to_bytes8 (w : World) (s : ByteArray) : ∃ (cap : Nat) (w1 : World), (convert 9 22 (.string s)).run Tryd.prog w = .ok (.slice (some ⟨w.heap.size, 0, none⟩) s.size cap) w1 ∧ Row w1 w.heap.size (bl s) ∧ Below w.heap.size w w1 ∧ s.size ≤ cap := by
  obtain ⟨cap, w1, h1, h2, h3, _⟩ := run_to_bytes w s
  refine ⟨cap, w1, h1, h2, h3, ?_⟩
  have h5 := Lib.run_convert_string_bytes (P := Tryd.prog) w 9 22 5 s Tryd.underlying9 Tryd.underlying22 Tryd.underlying5
  rw [h1] at h5
  injection h5 with h5 _
  injection h5 with _ _ h5
  rw [h5]
  exact grownCap_ge w s.size 0 5

theorem krow0 : takeF [50, 59, 120, 61, 121, 13, 10, 97, 98, 13, 10, 48, 13, 10, 84, 58, 32, 118, 13, 10, 13, 10] = ([97, 98], 22, 0) := by decide +kernel
theorem krow1 : takeF [50, 13, 10, 97, 98, 99, 13, 10] = ([], 0, 20) := by decide +kernel
theorem krow2 : takeF [103, 13, 10] = ([], 0, 20) := by decide +kernel
theorem krow3 : takeF [50, 10, 97, 98] = ([], 0, 20) := by decide +kernel
theorem krow4 : takeF [49, 48, 48, 49, 13, 10] = ([], 0, 21) := by decide +kernel
theorem krow5 : takeF [49, 102, 102, 102, 102, 102, 102, 102, 102, 102, 102, 102, 102, 102, 102, 102, 13, 10] = ([], 0, 21) := by decide +kernel
theorem krow6 : takeF [] = ([], 0, 8) := by decide +kernel
theorem krow7 : takeF [48, 13, 10] = ([], 0, 8) := by decide +kernel
theorem krow8 : takeF [48, 13, 10, 13, 10] = ([], 5, 0) := by decide +kernel
theorem krow9 : takeF [48, 48, 13, 10, 13, 10, 120] = ([], 6, 0) := by decide +kernel
theorem krow10 : takeF [13, 10] = ([], 0, 20) := by decide +kernel
theorem krow11 : takeF [32, 50, 13, 10] = ([], 0, 20) := by decide +kernel
theorem krow12 : takeF [50, 32, 13, 10] = ([], 0, 20) := by decide +kernel
theorem krow13 : takeF [50, 59, 1, 13, 10] = ([], 0, 20) := by decide +kernel
theorem krow14 : takeF [48, 13, 10, 98, 97, 100, 13, 10, 13, 10] = ([], 0, 20) := by decide +kernel
theorem klong0 : takeF (noughts 61 ++ [50, 13, 10, 97, 98, 13, 10, 48, 13, 10, 13, 10]) = ([97, 98], 73, 0) := by decide +kernel
theorem klong1 : takeF (noughts 61 ++ [48, 50, 13, 10, 97, 98, 13, 10, 48, 13, 10, 13, 10]) = ([], 0, 21) := by decide +kernel
theorem klong2 : takeF (noughts 61 ++ [48, 50]) = ([], 0, 8) := by decide +kernel
theorem klong3 : takeF (noughts 61 ++ [48, 48, 50]) = ([], 0, 21) := by decide +kernel
def tabK (S : ByteArray) : List Rk := [(⟨#[50, 59, 120, 61, 121, 13, 10, 97, 98, 13, 10, 48, 13, 10, 84, 58, 32, 118, 13, 10, 13, 10]⟩, ⟨#[97, 98]⟩, 22, 0), (⟨#[50, 13, 10, 97, 98, 99, 13, 10]⟩, ⟨#[]⟩, 0, 20), (⟨#[103, 13, 10]⟩, ⟨#[]⟩, 0, 20), (⟨#[50, 10, 97, 98]⟩, ⟨#[]⟩, 0, 20), (⟨#[49, 48, 48, 49, 13, 10]⟩, ⟨#[]⟩, 0, 21), (⟨#[49, 102, 102, 102, 102, 102, 102, 102, 102, 102, 102, 102, 102, 102, 102, 102, 13, 10]⟩, ⟨#[]⟩, 0, 21), (⟨#[]⟩, ⟨#[]⟩, 0, 8), (⟨#[48, 13, 10]⟩, ⟨#[]⟩, 0, 8), (⟨#[48, 13, 10, 13, 10]⟩, ⟨#[]⟩, 5, 0), (⟨#[48, 48, 13, 10, 13, 10, 120]⟩, ⟨#[]⟩, 6, 0), (⟨#[13, 10]⟩, ⟨#[]⟩, 0, 20), (⟨#[32, 50, 13, 10]⟩, ⟨#[]⟩, 0, 20), (⟨#[50, 32, 13, 10]⟩, ⟨#[]⟩, 0, 20), (⟨#[50, 59, 1, 13, 10]⟩, ⟨#[]⟩, 0, 20), (⟨#[48, 13, 10, 98, 97, 100, 13, 10, 13, 10]⟩, ⟨#[]⟩, 0, 20), (S ++ ⟨#[50, 13, 10, 97, 98, 13, 10, 48, 13, 10, 13, 10]⟩, ⟨#[97, 98]⟩, 73, 0), (S ++ ⟨#[48, 50, 13, 10, 97, 98, 13, 10, 48, 13, 10, 13, 10]⟩, ⟨#[]⟩, 0, 21), (S ++ ⟨#[48, 50]⟩, ⟨#[]⟩, 0, 8), (S ++ ⟨#[48, 48, 50]⟩, ⟨#[]⟩, 0, 21)]
theorem tabK_ok (S : ByteArray) (hS : bl S = noughts 61) : ∀ r ∈ tabK S, RkOk r := by
  unfold tabK
  intro r hr
  simp only [List.mem_cons, List.not_mem_nil, or_false] at hr
  rcases hr with rfl | rfl | rfl | rfl | rfl | rfl | rfl | rfl | rfl | rfl | rfl | rfl | rfl | rfl | rfl | rfl | rfl | rfl | rfl
  · exact ⟨krow0, by decide⟩
  · exact ⟨krow1, by decide⟩
  · exact ⟨krow2, by decide⟩
  · exact ⟨krow3, by decide⟩
  · exact ⟨krow4, by decide⟩
  · exact ⟨krow5, by decide⟩
  · exact ⟨krow6, by decide⟩
  · exact ⟨krow7, by decide⟩
  · exact ⟨krow8, by decide⟩
  · exact ⟨krow9, by decide⟩
  · exact ⟨krow10, by decide⟩
  · exact ⟨krow11, by decide⟩
  · exact ⟨krow12, by decide⟩
  · exact ⟨krow13, by decide⟩
  · exact ⟨krow14, by decide⟩
  · exact ⟨by rw [bl_join, hS]; exact klong0, by rw [← bl_length, bl_join, hS]; decide⟩
  · exact ⟨by rw [bl_join, hS]; exact klong1, by rw [← bl_length, bl_join, hS]; decide⟩
  · exact ⟨by rw [bl_join, hS]; exact klong2, by rw [← bl_length, bl_join, hS]; decide⟩
  · exact ⟨by rw [bl_join, hS]; exact klong3, by rw [← bl_length, bl_join, hS]; decide⟩

def zeros4 : List UInt8 := List.replicate 4096 0
theorem zeros4_len : zeros4.length = 4096 := List.length_replicate
theorem put_two : putC [zeros4, [1]] = ([], 21) := by
  unfold putC
  rw [if_pos]
  simp [totalF, zeros4_len]
theorem put_one : ∃ cd, putC [zeros4] = (cd, 0) ∧ takeF cd = (zeros4, cd.length, 0) ∧ cd.length ≤ 100000 := by
  have h : totalF [zeros4] = 4096 := by simp [totalF, zeros4_len]
  refine ⟨codedF [zeros4], by unfold putC; rw [if_neg (by omega)], ?_, ?_⟩
  · have := take_coded [] [zeros4] ((codedF [zeros4]).length + 1) 0 [] (by
      unfold codedF endC
      rw [List.length_append]
      simp) (by rw [h]; simp)
    rw [List.append_nil] at this
    unfold takeF
    rw [this]
    simp
  · have := chunks_length [zeros4] (by omega)
    unfold codedF endC
    rw [List.length_append]
    simp at this ⊢
    omega
/-- What is put, as a slice that has room for it. -/
def PutAs8 (R : List UInt8 × Nat) (X : World) (e : Ending) (w' : World) : Prop := ∃ A c, e = .returned (.tuple #[.slice A R.1.length c, .int .i64 (R.2 : Int)]) ∧ R.1.length ≤ c ∧ Src w' (fun _ => True) A R.1 ∧ Below X.heap.size X w'
/-- What is put of parts that lie in a block of the call's own. -/
theorem put_at (HC : ChunkC) (X : World) (ps : List (List UInt8)) (cl : List Value) (n : Nat) (hn : ps.length = n) (hcl : cl.length = n) (hmax : n ≤ 10) (h : ∀ (i : Nat) (x : List UInt8), ps[i]? = some x → ∃ (Ax : Option Addr) (cx : Nat), cl[i]? = some (Value.slice Ax x.length cx) ∧ x.length ≤ cx ∧ Src X (fun _ => True) Ax x ∧ x.length ≤ 4096) (R : List UInt8 × Nat) (hR : putC ps = R) (hz : ZeroTab X) (cur : Array Value) (hc : cl.toArray = cur) :
    Calls Tryd.prog 12 #[.slice (some ⟨X.heap.size, 0, none⟩) n n] (X.alloc (.cells cur 22)) (PutAs8 R X) := by
  subst hR hc
  have b0 : Below X.heap.size X (X.alloc (.cells cl.toArray 22)) := (Below.refl _ _).alloc (Nat.le_refl _) _
  have hi := Is.made X 22 cl
  have hL : SrcL (X.alloc (.cells cl.toArray 22)) (some ⟨X.heap.size, 0, none⟩) ps := fun _ => by
    refine ⟨_, rfl, by simp, fun i x hx => ?_⟩
    obtain ⟨Ax, cx, h1, h2, h3, _⟩ := h i x hx
    rw [add_at, Nat.zero_add, hi.cell]
    exact ⟨Ax, cx, h1, h2, h3.kept (Turn.of_below (S := fun _ => False) b0) (fun _ _ h => h)⟩
  refine (HC.put _ _ ps n n hn (by omega) hL (fun x hx => ?_) (hz.below b0)).mono ?_
  · obtain ⟨i, hi, hx⟩ := List.getElem_of_mem hx
    obtain ⟨_, _, _, _, _, h4⟩ := h i x (by rw [List.getElem?_eq_getElem hi, hx])
    omega
  · rintro e w' ⟨v, o, rfl, own, _, b⟩
    obtain ⟨A, c, rfl, hc, hs, _⟩ := own.block
    exact ⟨A, c, rfl, hc, hs, b0.trans (b.mono b0.size)⟩
theorem put_four (HC : ChunkC) (m1 : World) (g : Nat) (h : Is m1 g 5 (vals zeros4)) (hz : ZeroTab m1) : Calls Tryd.prog 12 #[.slice (some ⟨m1.heap.size + 1, 0, none⟩) 2 2] ((m1.alloc (.cells #[.int .u8 1] 5)).alloc (.cells #[.slice (some ⟨g, 0, none⟩) 4096 4096, .slice (some ⟨m1.heap.size, 0, none⟩) 1 1] 22)) (PutAs8 ([], 21) m1) := by
  obtain ⟨X, hX⟩ : ∃ X, X = m1.alloc (.cells #[.int .u8 1] 5) := ⟨_, rfl⟩
  have z : X.heap.size = m1.heap.size + 1 := by rw [hX]; simp
  have b : Below m1.heap.size m1 X := by rw [hX]; exact (Below.refl _ _).alloc (Nat.le_refl _) _
  have h0 : Is X g 5 (vals zeros4) := h.kept (Turn.of_below (S := fun _ => False) b) (fun h => h)
  have h1 : Is X m1.heap.size 5 (vals [1]) := by rw [hX]; exact Is.made m1 _ (vals [1])
  rw [← hX, ← z]
  refine (put_at HC X [zeros4, [1]] [.slice (some ⟨g, 0, none⟩) 4096 4096, .slice (some ⟨m1.heap.size, 0, none⟩) 1 1] 2 rfl rfl (by omega) (fun i x hx => ?_) _ put_two (hz.below b) _ rfl).mono ?_
  · have hi : i < 2 := (List.getElem?_eq_some_iff.1 hx).1
    obtain rfl | rfl : i = 0 ∨ i = 1 := by omega
    · obtain rfl : zeros4 = x := by simpa using hx
      exact ⟨_, 4096, by rw [zeros4_len]; rfl, by rw [zeros4_len]; omega, h0.src _ trivial, by rw [zeros4_len]; omega⟩
    · obtain rfl : [1] = x := by simpa using hx
      exact ⟨_, 1, rfl, Nat.le_refl _, h1.src _ trivial, by simp⟩
  · rintro e w' ⟨A, c, rfl, hc, hs, hb⟩
    exact ⟨A, c, rfl, hc, hs, b.trans (hb.mono b.size)⟩
theorem put_full (HC : ChunkC) (m1 : World) (g : Nat) (h : Is m1 g 5 (vals zeros4)) (hz : ZeroTab m1) (cd : List UInt8) (hcd : putC [zeros4] = (cd, 0)) : Calls Tryd.prog 12 #[.slice (some ⟨m1.heap.size, 0, none⟩) 1 1] (m1.alloc (.cells #[.slice (some ⟨g, 0, none⟩) 4096 4096] 22)) (PutAs8 (cd, 0) m1) := by
  refine put_at HC m1 [zeros4] [.slice (some ⟨g, 0, none⟩) 4096 4096] 1 rfl rfl (by omega) (fun i x hx => ?_) _ hcd hz _ rfl
  have hi : i < 1 := (List.getElem?_eq_some_iff.1 hx).1
  obtain rfl : i = 0 := by omega
  obtain rfl : zeros4 = x := by simpa using hx
  exact ⟨_, 4096, by rw [zeros4_len]; rfl, by rw [zeros4_len]; omega, h.src _ trivial, by rw [zeros4_len]; omega⟩
theorem make_four (X : World) : ∃ X', (Instr.makeSlice 22 (.int .i64 4096) (.int .i64 4096)).run Tryd.prog X = .ok (.slice (some ⟨X.heap.size, 0, none⟩) 4096 4096) X' ∧ Is X' X.heap.size 5 (vals zeros4) ∧ Below X.heap.size X X' := by
  obtain ⟨X', h1, h2, h3, _⟩ := run_make_bytes 4096 (by omega) X
  exact ⟨X', h1, h2, ⟨h3.os, h3.tape, h3.output, h3.size, fun b hb => h3.block b hb (fun h => h)⟩⟩

set_option maxHeartbeats 40000000 in
set_option maxRecDepth 100000 in
theorem known8_law (HC : ChunkC) (w : World) (hz : ZeroTab w) : Calls Tryd.prog 7 #[] w fun e w' => e = .returned (.bool true) ∧ Below w.heap.size w w' := by
  have CW := Lib.hid (awake8_any HC w hz)
  have HZ := Lib.hid hz
  clear hz
  go_enter Tryd.func7, Tryd.ntmps7
  go_wp2_with fail
  refine CW.out.mono ?_
  rintro e w1 ⟨rfl, b1⟩
  have B1 := Lib.hid b1
  have K1 := const_any #[.int .u8 48] 1 rfl w1 _ rfl
  clear b1 CW
  go_wp2_with fail
  refine (repeat_any _ _ _ (src_marked w1 [48] #[.int .u8 48] rfl (1, 2))).mono ?_
  rintro e w2 ⟨g2, rfl, s2, b2⟩
  have b1' : Below w1.heap.size w1 (w1.alloc (.cells #[.int .u8 48] 5 (1, 2))) := (Below.refl _ _).alloc (Nat.le_refl _) _
  have B2 := Lib.hid (B1.out.trans ((b1'.trans (b2.mono b1'.size)).mono B1.out.size))
  obtain ⟨S, hS⟩ : ∃ S : ByteArray, S = ⟨(noughts 61).toArray⟩ := ⟨_, rfl⟩
  have T2 := run_text w2 (some ⟨g2, 0, none⟩) (noughts 61) 61 61 rfl s2
  rw [← hS] at T2
  have HOK := Lib.hid (tabK_ok S (by rw [hS, bl_mk]))
  have hsz : S.size = 61 := by rw [← bl_length, hS, bl_mk]; rfl
  clear s2 b2 b1' hS K1
  go_wp2_with fail
  generalize hW : World.alloc w2 _ = W0
  have HI := Lib.hid (show Is W0 w2.heap.size 41 (rks (tabK S)) by rw [← hW]; exact Is.made w2 41 (rks (tabK S)))
  have B3 := Lib.hid (show Below w.heap.size w W0 by rw [← hW]; exact B2.out.alloc B2.out.size _)
  clear hW T2 hsz
  obtain ⟨T, hT⟩ : ∃ T, tabK S = T := ⟨_, rfl⟩
  have HL := Lib.hid (show T.length = 19 by rw [← hT]; rfl)
  rw [hT] at HI HOK
  clear hT
  obtain ⟨g3, hg3⟩ : ∃ g, w2.heap.size = g := ⟨_, rfl⟩
  rw [hg3] at HI
  simp only [hg3]
  clear hg3
  iterate 19 (generalize Value.agg _ = ag)
  go_loopw [54] (fun vi wr => ∃ k : Nat, vi = .int .i64 (k : Int) ∧ k ≤ 19 ∧ Hid (Below W0.heap.size W0 wr)) (fun vi _ => 19 - (intOf vi).toNat)
  case atStart => exact ⟨0, rfl, Nat.zero_le _, Lib.hid (Below.refl _ _)⟩
  case round =>
    obtain ⟨k, rfl, hk, HB⟩ := hrel
    by_cases hlt : k < 19
    · obtain ⟨p, r, hr, hat, y0, y1, y2, y3⟩ := rk_at T HL.out HI.out HOK.out k hlt HB.out
      obtain ⟨si, so, rn, re⟩ := r
      obtain ⟨hr1, hr2⟩ := hr
      simp only at hr1 hr2 y0 y1 y2 y3
      have I0 := Is.made wr 41 [.string si, .string so, .int .i64 (rn : Int), .int .i64 (re : Int)]
      have HB0 := HB.out.alloc HB.out.size (.cells #[.string si, .string so, .int .i64 (rn : Int), .int .i64 (re : Int)] 41)
      obtain ⟨cap, w5, hcv, row5, b5, hcap⟩ := run_to_bytes8 (wr.alloc (.cells #[.string si, .string so, .int .i64 (rn : Int), .int .i64 (re : Int)] 41)) si
      have I5 := Lib.hid (I0.kept (Turn.of_below (S := fun _ => False) b5) (fun h => h))
      have HB5 := Lib.hid (HB0.trans (b5.mono HB0.size))
      clear I0 HB0 b5
      obtain ⟨g5, hg5⟩ : ∃ g, (wr.alloc (.cells #[.string si, .string so, .int .i64 (rn : Int), .int .i64 (re : Int)] 41)).heap.size = g := ⟨_, rfl⟩
      rw [hg5] at hcv row5
      clear hg5
      have CT := Lib.hid (HC.take w5 _ (bl si) si.size cap (bl_length si) hcap (by omega) row5.src)
      rw [hr1] at CT
      unfold TakeGot at CT
      simp only at CT
      clear hr1 hr2 row5 hcap
      go_wp2_with fail
      refine CT.out.mono ?_
      rintro e w6 ⟨v6, o6, rfl, own6, _, b6⟩
      obtain ⟨A6, c6, rfl, s6⟩ := own6.src (fun _ => True) (fun _ _ => trivial)
      have T6 : (convert 22 9 (.slice A6 (bl so).length c6)).run Tryd.prog w6 = .ok (.string so) w6 := by
        have := run_text w6 A6 (bl so) _ c6 rfl s6
        rwa [mk_bl] at this
      have I6 := Lib.hid (I5.out.kept (Turn.of_below (S := fun _ => False) b6) (fun h => h))
      have HB6 := Lib.hid (HB5.out.trans (b6.mono HB5.out.size))
      have x1 : w6.cell? ⟨wr.heap.size, 1, none⟩ = some (.string so) := I6.out.cell 1
      have x2 : w6.cell? ⟨wr.heap.size, 2, none⟩ = some (.int .i64 (rn : Int)) := I6.out.cell 2
      have x3 : w6.cell? ⟨wr.heap.size, 3, none⟩ = some (.int .i64 (re : Int)) := I6.out.cell 3
      have e1 : ((rn : Int) != (rn : Int)) = false := by simp
      have e2 : ((re : Int) != (re : Int)) = false := by simp
      have e3 : (so.toList == so.toList) = true := by simp
      clear own6 s6 b6 hcv CT y0 y1 y2 y3 hat
      go_wp2_with fail
      go_roundw
      case rel => exact ⟨k + 1, by go_num, hlt, HB6⟩
      case measure => simp [intOf]; omega
    · obtain rfl : k = 19 := by omega
      have E0 := Lib.hid (B3.out.trans (HB.out.mono B3.out.size))
      obtain ⟨cd, hcd, hcd2, hcd3⟩ := put_one
      obtain ⟨m1, hm1, i1, bm1⟩ := make_four wr
      have E1 := Lib.hid (E0.out.trans (bm1.mono E0.out.size))
      have CP1 := Lib.hid (put_four HC m1 wr.heap.size i1 (HZ.out.below E1.out))
      unfold PutAs8 at CP1
      simp only [List.length_nil] at CP1
      have HCD := Lib.hid hcd
      have HCD2 := Lib.hid hcd2
      have HCD3 := Lib.hid hcd3
      clear hcd hcd2 hcd3 i1 bm1 HB HI HL HOK
      go_wp2_with fail
      refine CP1.out.mono ?_
      rintro e w7 ⟨A7, c7, rfl, _, _, b7⟩
      have E7 := Lib.hid (E1.out.trans (b7.mono E1.out.size))
      obtain ⟨m2, hm2, i2, bm2⟩ := make_four w7
      have E8 := Lib.hid (E7.out.trans (bm2.mono E7.out.size))
      have CP2 := Lib.hid (put_full HC m2 w7.heap.size i2 (HZ.out.below E8.out) cd HCD.out)
      unfold PutAs8 at CP2
      simp only at CP2
      clear b7 hm1 i2 bm2 CP1
      go_wp2_with fail
      refine CP2.out.mono ?_
      rintro e w8 ⟨A8, c8, rfl, hc8, s8, b8⟩
      have E9 := Lib.hid (E8.out.trans (b8.mono E8.out.size))
      have CT := Lib.hid (HC.take w8 A8 cd cd.length c8 rfl hc8 (by have := HCD3.out; omega) s8)
      rw [HCD2.out] at CT
      unfold TakeGot at CT
      simp only at CT
      clear hc8 s8 b8 hm2 CP2
      go_wp2_with fail
      refine CT.out.mono ?_
      rintro e w9 ⟨v9, o9, rfl, own9, _, b9⟩
      obtain ⟨A9, c9, rfl, _⟩ := own9.src (fun _ => True) (fun _ _ => trivial)
      rw [zeros4_len]
      have E10 := Lib.hid (E9.out.trans (b9.mono E9.out.size))
      have e1 : ((cd.length : Int) == (cd.length : Int)) = true := by simp
      clear own9 b9 CT
      go_wp2_with fail
      go_ret
      exact ⟨rfl, E10.out⟩
end Go.Proofs.YtilgljnmdfejmaaDoor
