/-
  The law FrameKnown: walk.
  Conditions: none.
-/
import Derived.Test.YtcpohdejdiljnaaDoorFKA
namespace Go.Proofs.YtcpohdejdiljnaaDoor
open Go.RowKit

/-- A slice of fields is told. -/
def FldsAt (n : Nat) (ls : List Fld) (X : World) (e : Ending) (w' : World) : Prop := ∃ A c, e = .returned (.slice A n c) ∧ SrcF w' (fun _ => True) A ls ∧ Below X.heap.size X w'
theorem cl_made (ss : List (List UInt8)) (ls : List Fld) (hls : (ss.map fun s => (clN, s)) = ls) (cur : Array Value) (hcur : (strs ss).toArray = cur) (m : Nat) (hm : ss.length = m) (hk : m ≤ 1000) (X : World) :
    Calls Tryd.prog 20 #[.slice (some ⟨X.heap.size, 0, none⟩) m m] (X.alloc (.cells cur 9)) (FldsAt m ls X) := by
  subst hcur hls
  have hi := Is.made X 9 (strs ss)
  have hb : Below X.heap.size X (X.alloc (.cells (strs ss).toArray 9)) := (Below.refl _ _).alloc (Nat.le_refl _) _
  refine (cl_any (P := fun _ => True) _ _ ss m m hm (by omega) (fun _ => ⟨_, rfl, trivial, by simp, fun i x hx => ?_⟩)).mono ?_
  · rw [add_at, Nat.zero_add, hi.cell]
    simp [strs, hx]
  · rintro e w' ⟨v, o, rfl, own, _, b⟩
    obtain ⟨A, c, rfl, hs⟩ := own.src (fun _ => True) (fun _ _ => trivial)
    exact ⟨A, c, by rw [List.length_map, hm], hs, hb.trans (b.mono hb.size)⟩
theorem te_made (s : ByteArray) (ls : List Fld) (hls : ls = [(teN, bl s)]) (X : World) : Calls Tryd.prog 21 #[.string s] X (FldsAt 1 ls X) := by
  subst hls
  refine (te_any s X).mono ?_
  rintro e w' ⟨rfl, rfl⟩
  exact ⟨_, _, rfl, srcf_made X [(teN, bl s)] _ (by unfold flds strV; simp [mk_bl]), (Below.refl _ _).alloc (Nat.le_refl _) _⟩
theorem te_own (s : ByteArray) (X : World) : Calls Tryd.prog 21 #[.string s] X fun e w' => ∃ g, e = .returned (.slice (some ⟨g, 0, none⟩) 1 1) ∧ OwnF w' (.slice (some ⟨g, 0, none⟩) 1 1) (some g) [(teN, bl s)] ∧ X.heap.size ≤ g ∧ g < w'.heap.size ∧ Below X.heap.size X w' := by
  refine (te_any s X).mono ?_
  rintro e w' ⟨rfl, rfl⟩
  refine ⟨X.heap.size, rfl, ⟨⟨rfl, .inr ⟨X.heap.size, 1, #[.string ⟨teN.toArray⟩, .string s], rfl, Nat.zero_le _, heap_alloc_new X _, Nat.le_refl _, by decide, rfl, ?_⟩⟩, rfl⟩, Nat.le_refl _, by simp, (Below.refl _ _).alloc (Nat.le_refl _) _⟩
  unfold flds strV
  simp [mk_bl]
theorem app_made (X : World) (v : Value) (o : Option Nat) (ls news all : List Fld) (h : OwnF X v o ls) (A : Option Addr) (n c m : Nat) (hn : news.length = n) (hs : SrcF X (fun _ => True) A news) (hlen : ls.length + news.length ≤ 1000) (hall : ls ++ news = all) (hm : all.length = m) (w0 : World) (hb : Below w0.heap.size w0 X) (ho : ∀ k, o = some k → w0.heap.size ≤ k) :
    ∃ (A' : Option Addr) (c' : Nat) (w' : World), (Builtin.append_ #[22, 22] 22 #[v, .slice A n c]).run Tryd.prog X = .ok (.slice A' m c') w' ∧ SrcF w' (fun _ => True) A' all ∧ Below w0.heap.size w0 w' := by
  subst hall hm
  obtain ⟨v', w', o', hrun, own', t', ho'⟩ := run_append_srcF X v o ls news h A n c hn hs (by omega)
  obtain ⟨A', c', rfl, hs'⟩ := own'.src (fun _ => True) (fun _ _ => trivial)
  exact ⟨A', c', w', hrun, hs', Turn.none_below hb ho t'⟩

/-- A row of the law's table. -/
abbrev Rw := Int × Option Addr × Nat × Nat × List Fld × Kd
def rwV (r : Rw) : List Value := [.int .i64 r.1, .slice r.2.1 r.2.2.1 r.2.2.2.1, .int .i64 (r.2.2.2.2.2.1 : Int), .int .u64 (r.2.2.2.2.2.2.1 : Int), .int .i64 (r.2.2.2.2.2.2.2 : Int)]
def RwOk (X : World) (r : Rw) : Prop := r.2.2.2.2.1.length = r.2.2.1 ∧ SrcF X (fun _ => True) r.2.1 r.2.2.2.2.1 ∧ bulkF r.2.2.2.2.1 ≤ 1000 ∧ reqK r.1 r.2.2.2.2.1 = r.2.2.2.2.2
def rws (l : List Rw) : List Value := l.flatMap rwV
theorem rws_get : ∀ (l : List Rw) (k j : Nat) (r : Rw), l[k]? = some r → j < 5 → (rws l)[k * 5 + j]? = (rwV r)[j]?
  | [], k, j, r, h, _ => by simp at h
  | x :: t, 0, j, r, h, hj => by
    obtain rfl : x = r := by simpa using h
    show (rwV x ++ rws t)[0 * 5 + j]? = _
    rw [List.getElem?_append_left (by show 0 * 5 + j < 5; omega)]
    congr 1
    omega
  | x :: t, k + 1, j, r, h, hj => by
    have := rws_get t k j r (by simpa using h) hj
    show (rwV x ++ rws t)[(k + 1) * 5 + j]? = _
    rw [List.getElem?_append_right (by show 5 ≤ _; omega), ← this]
    congr 1
    show (k + 1) * 5 + j - 5 = _
    omega
theorem rowSize : (Tryd.prog.info? 49).map (·.size) = some 5 := by kernel_rfl
theorem row_at (T : List Rw) {w16 wr : World} {g : Nat} (hl : T.length = 18) (hi : Is w16 g 49 (rws T)) (hok : ∀ r ∈ T, RwOk w16 r) (k : Nat) (hk : k < 18) (hb : Below w16.heap.size w16 wr) :
    ∃ (p : Addr) (r : Rw), RwOk w16 r ∧ (∀ X, (Instr.indexAt 50 (.slice (some ⟨g, 0, none⟩) 18 18) (.int .i64 (k : Int))).run Tryd.prog X = .ok (.pointer (some p)) X) ∧
      wr.cell? p = some (.int .i64 r.1) ∧ wr.cell? ⟨p.block, p.off + 1, none⟩ = some (.slice r.2.1 r.2.2.1 r.2.2.2.1) ∧ wr.cell? ⟨p.block, p.off + 2, none⟩ = some (.int .i64 (r.2.2.2.2.2.1 : Int)) ∧
      wr.cell? ⟨p.block, p.off + 3, none⟩ = some (.int .u64 (r.2.2.2.2.2.2.1 : Int)) ∧ wr.cell? ⟨p.block, p.off + 4, none⟩ = some (.int .i64 (r.2.2.2.2.2.2.2 : Int)) := by
  obtain ⟨r, hr⟩ : ∃ r, T[k]? = some r := ⟨T[k]'(by omega), List.getElem?_eq_getElem _⟩
  have hj : Is wr g 49 (rws T) := hi.kept (Turn.of_below (S := fun _ => False) hb) (fun h => h)
  refine ⟨⟨g, k * 5, none⟩, r, hok r (List.mem_of_getElem? hr), fun X => ?_, ?_, ?_, ?_, ?_, ?_⟩
  · have := run_at_size 50 49 5 Tryd.underlying50 rowSize ⟨g, 0, none⟩ 18 18 k hk X
    rw [add_at, Nat.zero_add] at this
    exact this
  · exact (hj.cell (k * 5)).trans (rws_get T k 0 r hr (by omega))
  · exact (hj.cell (k * 5 + 1)).trans (rws_get T k 1 r hr (by omega))
  · exact (hj.cell (k * 5 + 2)).trans (rws_get T k 2 r hr (by omega))
  · exact (hj.cell (k * 5 + 3)).trans (rws_get T k 3 r hr (by omega))
  · exact (hj.cell (k * 5 + 4)).trans (rws_get T k 4 r hr (by omega))
theorem RwOk.below {X X' : World} {r : Rw} (h : RwOk X r) (hb : Below X.heap.size X X') : RwOk X' r := ⟨h.1, h.2.1.below hb, h.2.2⟩

theorem bulk0 : bulkF [] ≤ 1000 := by decide
theorem row0 : reqK (1) [] = (0, 0, 0) := by decide +kernel
theorem bulk1 : bulkF [(clN, [53])] ≤ 1000 := by decide
theorem row1 : reqK (1) [(clN, [53])] = (1, 5, 0) := by decide +kernel
theorem bulk2 : bulkF [(clN, [53])] ≤ 1000 := by decide
theorem row2 : reqK (0) [(clN, [53])] = (1, 5, 0) := by decide +kernel
theorem bulk3 : bulkF [(clN, [43, 53])] ≤ 1000 := by decide
theorem row3 : reqK (1) [(clN, [43, 53])] = (0, 0, 22) := by decide +kernel
theorem bulk4 : bulkF [(clN, [])] ≤ 1000 := by decide
theorem row4 : reqK (1) [(clN, [])] = (0, 0, 22) := by decide +kernel
theorem bulk5 : bulkF [(clN, [53]), (clN, [])] ≤ 1000 := by decide
theorem row5 : reqK (1) [(clN, [53]), (clN, [])] = (1, 5, 0) := by decide +kernel
theorem bulk6 : bulkF [(clN, [53, 44, 54])] ≤ 1000 := by decide
theorem row6 : reqK (1) [(clN, [53, 44, 54])] = (0, 0, 22) := by decide +kernel
theorem bulk7 : bulkF [(clN, [52, 48, 57, 54])] ≤ 1000 := by decide
theorem row7 : reqK (1) [(clN, [52, 48, 57, 54])] = (1, 4096, 0) := by decide +kernel
theorem bulk8 : bulkF [(clN, [52, 48, 57, 55])] ≤ 1000 := by decide
theorem row8 : reqK (1) [(clN, [52, 48, 57, 55])] = (0, 0, 21) := by decide +kernel
theorem bulk9 : bulkF [(clN, [57, 57, 57, 57, 57, 57, 57, 57, 57, 57, 57, 57, 57, 57, 57, 57, 57, 57, 57, 57])] ≤ 1000 := by decide
theorem row9 : reqK (1) [(clN, [57, 57, 57, 57, 57, 57, 57, 57, 57, 57, 57, 57, 57, 57, 57, 57, 57, 57, 57, 57])] = (0, 0, 21) := by decide +kernel
theorem bulk10 : bulkF [(clN, [57, 57, 57, 57, 57, 57, 57, 57, 57, 57, 57, 57, 57, 57, 57, 57, 57, 57, 57, 57]), (clN, [57, 57, 57, 57, 57, 57, 57, 57, 57, 57, 57, 57, 57, 57, 57, 57, 57, 57, 57, 56])] ≤ 1000 := by decide
theorem row10 : reqK (1) [(clN, [57, 57, 57, 57, 57, 57, 57, 57, 57, 57, 57, 57, 57, 57, 57, 57, 57, 57, 57, 57]), (clN, [57, 57, 57, 57, 57, 57, 57, 57, 57, 57, 57, 57, 57, 57, 57, 57, 57, 57, 57, 56])] = (0, 0, 22) := by decide +kernel
theorem bulk11 : bulkF [(teN, [103, 122, 105, 112, 44, 32, 99, 104, 117, 110, 107, 101, 100])] ≤ 1000 := by decide
theorem row11 : reqK (1) [(teN, [103, 122, 105, 112, 44, 32, 99, 104, 117, 110, 107, 101, 100])] = (0, 0, 22) := by decide +kernel
theorem bulk12 : bulkF [(teN, [99, 104, 117, 110, 107, 101, 100])] ≤ 1000 := by decide
theorem row12 : reqK (0) [(teN, [99, 104, 117, 110, 107, 101, 100])] = (0, 0, 22) := by decide +kernel
theorem bulk13 : bulkF [(teN, [])] ≤ 1000 := by decide
theorem row13 : reqK (1) [(teN, [])] = (0, 0, 22) := by decide +kernel
theorem bulk14 : bulkF [(teN, [99, 104, 117, 110, 107, 101, 100, 44, 32, 99, 104, 117, 110, 107, 101, 100])] ≤ 1000 := by decide
theorem row14 : reqK (1) [(teN, [99, 104, 117, 110, 107, 101, 100, 44, 32, 99, 104, 117, 110, 107, 101, 100])] = (0, 0, 22) := by decide +kernel
theorem bulk15 : bulkF [(teN, [99, 104, 117, 110, 107, 101, 100]), (clN, [53])] ≤ 1000 := by decide
theorem row15 : reqK (1) [(teN, [99, 104, 117, 110, 107, 101, 100]), (clN, [53])] = (0, 0, 22) := by decide +kernel
theorem bulk16 : bulkF [] ≤ 1000 := by decide
theorem row16 : reqK (2) [] = (0, 0, 1) := by decide +kernel
theorem bulk17 : bulkF [] ≤ 1000 := by decide
theorem row17 : reqK (-1) [] = (0, 0, 1) := by decide +kernel

theorem respa : resK 99 [71, 69, 84] (reqK 1 []) = (0, 0, 1) := by decide +kernel
theorem respb : resK 600 [71, 69, 84] (reqK 1 []) = (0, 0, 1) := by decide +kernel
theorem respc : resK 200 [72, 69, 65, 68] (reqK 1 [(clN, [57, 57, 57, 57])]) = (0, 0, 0) := by decide +kernel
theorem respd : resK 204 [71, 69, 84] (reqK 1 [(teN, [99, 104, 117, 110, 107, 101, 100]), (clN, [53])]) = (0, 0, 22) := by decide +kernel
theorem respe : resK 200 [67, 79, 78, 78, 69, 67, 84] (reqK 1 [(clN, [53])]) = (0, 0, 0) := by decide +kernel
theorem respf : resK 300 [67, 79, 78, 78, 69, 67, 84] (reqK 1 [(clN, [53])]) = (1, 5, 0) := by decide +kernel
set_option maxHeartbeats 40000000 in
set_option maxRecDepth 100000 in
theorem known_law (w : World) : Calls Tryd.prog 7 #[] w fun e w' => e = .returned (.bool true) ∧ Below w.heap.size w w' := by
  have CW := Lib.hid (fun X : World => awake_any X)
  have K1 := Lib.hid (cl_made [[53]] [(clN, [53])] rfl #[.string ⟨#[53]⟩] rfl 1 rfl (by decide))
  have K2 := Lib.hid (cl_made [[53]] [(clN, [53])] rfl #[.string ⟨#[53]⟩] rfl 1 rfl (by decide))
  have K3 := Lib.hid (cl_made [[43, 53]] [(clN, [43, 53])] rfl #[.string ⟨#[43, 53]⟩] rfl 1 rfl (by decide))
  have K4 := Lib.hid (cl_made [[]] [(clN, [])] rfl #[.string ⟨#[]⟩] rfl 1 rfl (by decide))
  have K5 := Lib.hid (cl_made [[53], []] [(clN, [53]), (clN, [])] rfl #[.string ⟨#[53]⟩, .string ⟨#[]⟩] rfl 2 rfl (by decide))
  have K6 := Lib.hid (cl_made [[53, 44, 54]] [(clN, [53, 44, 54])] rfl #[.string ⟨#[53, 44, 54]⟩] rfl 1 rfl (by decide))
  have K7 := Lib.hid (cl_made [[52, 48, 57, 54]] [(clN, [52, 48, 57, 54])] rfl #[.string ⟨#[52, 48, 57, 54]⟩] rfl 1 rfl (by decide))
  have K8 := Lib.hid (cl_made [[52, 48, 57, 55]] [(clN, [52, 48, 57, 55])] rfl #[.string ⟨#[52, 48, 57, 55]⟩] rfl 1 rfl (by decide))
  have K9 := Lib.hid (cl_made [[57, 57, 57, 57, 57, 57, 57, 57, 57, 57, 57, 57, 57, 57, 57, 57, 57, 57, 57, 57]] [(clN, [57, 57, 57, 57, 57, 57, 57, 57, 57, 57, 57, 57, 57, 57, 57, 57, 57, 57, 57, 57])] rfl #[.string ⟨#[57, 57, 57, 57, 57, 57, 57, 57, 57, 57, 57, 57, 57, 57, 57, 57, 57, 57, 57, 57]⟩] rfl 1 rfl (by decide))
  have K10 := Lib.hid (cl_made [[57, 57, 57, 57, 57, 57, 57, 57, 57, 57, 57, 57, 57, 57, 57, 57, 57, 57, 57, 57], [57, 57, 57, 57, 57, 57, 57, 57, 57, 57, 57, 57, 57, 57, 57, 57, 57, 57, 57, 56]] [(clN, [57, 57, 57, 57, 57, 57, 57, 57, 57, 57, 57, 57, 57, 57, 57, 57, 57, 57, 57, 57]), (clN, [57, 57, 57, 57, 57, 57, 57, 57, 57, 57, 57, 57, 57, 57, 57, 57, 57, 57, 57, 56])] rfl #[.string ⟨#[57, 57, 57, 57, 57, 57, 57, 57, 57, 57, 57, 57, 57, 57, 57, 57, 57, 57, 57, 57]⟩, .string ⟨#[57, 57, 57, 57, 57, 57, 57, 57, 57, 57, 57, 57, 57, 57, 57, 57, 57, 57, 57, 56]⟩] rfl 2 rfl (by decide))
  have K11 := Lib.hid (te_made ⟨#[103, 122, 105, 112, 44, 32, 99, 104, 117, 110, 107, 101, 100]⟩ [(teN, [103, 122, 105, 112, 44, 32, 99, 104, 117, 110, 107, 101, 100])] rfl)
  have K12 := Lib.hid (te_made ⟨#[99, 104, 117, 110, 107, 101, 100]⟩ [(teN, [99, 104, 117, 110, 107, 101, 100])] rfl)
  have K13 := Lib.hid (te_made ⟨#[]⟩ [(teN, [])] rfl)
  have K14 := Lib.hid (te_made ⟨#[99, 104, 117, 110, 107, 101, 100, 44, 32, 99, 104, 117, 110, 107, 101, 100]⟩ [(teN, [99, 104, 117, 110, 107, 101, 100, 44, 32, 99, 104, 117, 110, 107, 101, 100])] rfl)
  have K15t := Lib.hid (te_own ⟨#[99, 104, 117, 110, 107, 101, 100]⟩)
  have K15 := Lib.hid (cl_made [[53]] [(clN, [53])] rfl #[.string ⟨#[53]⟩] rfl 1 rfl (by decide))
  have Qa := Lib.hid (fun (X : World) (A : Option Addr) (c : Nat) (h : SrcF X (fun _ => True) A []) => response_any 99 ⟨#[71, 69, 84]⟩ 1 X A [] 0 c rfl h (Meek.small (by decide)).fit)
  rw [show bl ⟨#[71, 69, 84]⟩ = [71, 69, 84] from rfl, respa] at Qa
  unfold Tells kdV at Qa
  simp only at Qa
  have Qb := Lib.hid (fun (X : World) (A : Option Addr) (c : Nat) (h : SrcF X (fun _ => True) A []) => response_any 600 ⟨#[71, 69, 84]⟩ 1 X A [] 0 c rfl h (Meek.small (by decide)).fit)
  rw [show bl ⟨#[71, 69, 84]⟩ = [71, 69, 84] from rfl, respb] at Qb
  unfold Tells kdV at Qb
  simp only at Qb
  have Qc := Lib.hid (fun (X : World) (A : Option Addr) (c : Nat) (h : SrcF X (fun _ => True) A [(clN, [57, 57, 57, 57])]) => response_any 200 ⟨#[72, 69, 65, 68]⟩ 1 X A [(clN, [57, 57, 57, 57])] 1 c rfl h (Meek.small (by decide)).fit)
  rw [show bl ⟨#[72, 69, 65, 68]⟩ = [72, 69, 65, 68] from rfl, respc] at Qc
  unfold Tells kdV at Qc
  simp only at Qc
  have K17 := Lib.hid (cl_made [[57, 57, 57, 57]] [(clN, [57, 57, 57, 57])] rfl #[.string ⟨#[57, 57, 57, 57]⟩] rfl 1 rfl (by decide))
  have Qd := Lib.hid (fun (X : World) (A : Option Addr) (c : Nat) (h : SrcF X (fun _ => True) A [(teN, [99, 104, 117, 110, 107, 101, 100]), (clN, [53])]) => response_any 204 ⟨#[71, 69, 84]⟩ 1 X A [(teN, [99, 104, 117, 110, 107, 101, 100]), (clN, [53])] 2 c rfl h (Meek.small (by decide)).fit)
  rw [show bl ⟨#[71, 69, 84]⟩ = [71, 69, 84] from rfl, respd] at Qd
  unfold Tells kdV at Qd
  simp only at Qd
  have K18t := Lib.hid (te_own ⟨#[99, 104, 117, 110, 107, 101, 100]⟩)
  have K18 := Lib.hid (cl_made [[53]] [(clN, [53])] rfl #[.string ⟨#[53]⟩] rfl 1 rfl (by decide))
  have Qe := Lib.hid (fun (X : World) (A : Option Addr) (c : Nat) (h : SrcF X (fun _ => True) A [(clN, [53])]) => response_any 200 ⟨#[67, 79, 78, 78, 69, 67, 84]⟩ 1 X A [(clN, [53])] 1 c rfl h (Meek.small (by decide)).fit)
  rw [show bl ⟨#[67, 79, 78, 78, 69, 67, 84]⟩ = [67, 79, 78, 78, 69, 67, 84] from rfl, respe] at Qe
  unfold Tells kdV at Qe
  simp only at Qe
  have K19 := Lib.hid (cl_made [[53]] [(clN, [53])] rfl #[.string ⟨#[53]⟩] rfl 1 rfl (by decide))
  have Qf := Lib.hid (fun (X : World) (A : Option Addr) (c : Nat) (h : SrcF X (fun _ => True) A [(clN, [53])]) => response_any 300 ⟨#[67, 79, 78, 78, 69, 67, 84]⟩ 1 X A [(clN, [53])] 1 c rfl h (Meek.small (by decide)).fit)
  rw [show bl ⟨#[67, 79, 78, 78, 69, 67, 84]⟩ = [67, 79, 78, 78, 69, 67, 84] from rfl, respf] at Qf
  unfold Tells kdV at Qf
  simp only at Qf
  have K20 := Lib.hid (cl_made [[53]] [(clN, [53])] rfl #[.string ⟨#[53]⟩] rfl 1 rfl (by decide))
  go_enter Tryd.func7, Tryd.ntmps7
  have B0 := Lib.hid (Below.refl w.heap.size w)
  go_wp2_with fail
  refine (CW.out _).mono ?_
  rintro e wa ⟨rfl, ba⟩
  have Ba := Lib.hid ba
  clear ba
  go_wp2_with fail
  refine (K1.out _).mono ?_
  rintro e w1 ⟨A1, c1, rfl, s1, b1⟩
  have S1 := Lib.hid s1
  have B1 := Lib.hid (Ba.out.trans (b1.mono Ba.out.size))
  have L1 := Lib.hid b1
  clear s1 b1
  go_wp2_with fail
  refine (K2.out _).mono ?_
  rintro e w2 ⟨A2, c2, rfl, s2, b2⟩
  have S2 := Lib.hid s2
  have B2 := Lib.hid (B1.out.trans (b2.mono B1.out.size))
  have L2 := Lib.hid b2
  clear s2 b2
  go_wp2_with fail
  refine (K3.out _).mono ?_
  rintro e w3 ⟨A3, c3, rfl, s3, b3⟩
  have S3 := Lib.hid s3
  have B3 := Lib.hid (B2.out.trans (b3.mono B2.out.size))
  have L3 := Lib.hid b3
  clear s3 b3
  go_wp2_with fail
  refine (K4.out _).mono ?_
  rintro e w4 ⟨A4, c4, rfl, s4, b4⟩
  have S4 := Lib.hid s4
  have B4 := Lib.hid (B3.out.trans (b4.mono B3.out.size))
  have L4 := Lib.hid b4
  clear s4 b4
  go_wp2_with fail
  refine (K5.out _).mono ?_
  rintro e w5 ⟨A5, c5, rfl, s5, b5⟩
  have S5 := Lib.hid s5
  have B5 := Lib.hid (B4.out.trans (b5.mono B4.out.size))
  have L5 := Lib.hid b5
  clear s5 b5
  go_wp2_with fail
  refine (K6.out _).mono ?_
  rintro e w6 ⟨A6, c6, rfl, s6, b6⟩
  have S6 := Lib.hid s6
  have B6 := Lib.hid (B5.out.trans (b6.mono B5.out.size))
  have L6 := Lib.hid b6
  clear s6 b6
  go_wp2_with fail
  refine (K7.out _).mono ?_
  rintro e w7 ⟨A7, c7, rfl, s7, b7⟩
  have S7 := Lib.hid s7
  have B7 := Lib.hid (B6.out.trans (b7.mono B6.out.size))
  have L7 := Lib.hid b7
  clear s7 b7
  go_wp2_with fail
  refine (K8.out _).mono ?_
  rintro e w8 ⟨A8, c8, rfl, s8, b8⟩
  have S8 := Lib.hid s8
  have B8 := Lib.hid (B7.out.trans (b8.mono B7.out.size))
  have L8 := Lib.hid b8
  clear s8 b8
  go_wp2_with fail
  refine (K9.out _).mono ?_
  rintro e w9 ⟨A9, c9, rfl, s9, b9⟩
  have S9 := Lib.hid s9
  have B9 := Lib.hid (B8.out.trans (b9.mono B8.out.size))
  have L9 := Lib.hid b9
  clear s9 b9
  go_wp2_with fail
  refine (K10.out _).mono ?_
  rintro e w10 ⟨A10, c10, rfl, s10, b10⟩
  have S10 := Lib.hid s10
  have B10 := Lib.hid (B9.out.trans (b10.mono B9.out.size))
  have L10 := Lib.hid b10
  clear s10 b10
  go_wp2_with fail
  refine (K11.out _).mono ?_
  rintro e w11 ⟨A11, c11, rfl, s11, b11⟩
  have S11 := Lib.hid s11
  have B11 := Lib.hid (B10.out.trans (b11.mono B10.out.size))
  have L11 := Lib.hid b11
  clear s11 b11
  go_wp2_with fail
  refine (K12.out _).mono ?_
  rintro e w12 ⟨A12, c12, rfl, s12, b12⟩
  have S12 := Lib.hid s12
  have B12 := Lib.hid (B11.out.trans (b12.mono B11.out.size))
  have L12 := Lib.hid b12
  clear s12 b12
  go_wp2_with fail
  refine (K13.out _).mono ?_
  rintro e w13 ⟨A13, c13, rfl, s13, b13⟩
  have S13 := Lib.hid s13
  have B13 := Lib.hid (B12.out.trans (b13.mono B12.out.size))
  have L13 := Lib.hid b13
  clear s13 b13
  go_wp2_with fail
  refine (K14.out _).mono ?_
  rintro e w14 ⟨A14, c14, rfl, s14, b14⟩
  have S14 := Lib.hid s14
  have B14 := Lib.hid (B13.out.trans (b14.mono B13.out.size))
  have L14 := Lib.hid b14
  clear s14 b14
  go_wp2_with fail
  refine (K15t.out _).mono ?_
  rintro e w15t ⟨g15, rfl, own15, hg15, hz15, b15⟩
  have O15 := Lib.hid own15
  have G15 := Lib.hid hg15
  have B15t := Lib.hid (B14.out.trans (b15.mono B14.out.size))
  have L15t := Lib.hid b15
  clear own15 hg15 hz15 b15
  go_wp2_with fail
  refine (K15.out _).mono ?_
  rintro e w15c ⟨A15, c15, rfl, s15, b15⟩
  have S15 := Lib.hid s15
  have B15c := Lib.hid (B15t.out.trans (b15.mono B15t.out.size))
  have L15c := Lib.hid (L15t.out.trans (b15.mono L15t.out.size))
  obtain ⟨D15, d15, w15, hr15, x15, bb15⟩ := app_made w15c _ _ _ _ [(teN, [99, 104, 117, 110, 107, 101, 100]), (clN, [53])] (O15.out.kept (Turn.of_below (S := fun _ => False) b15) (fun _ _ h => h)) A15 1 c15 2 rfl s15 (by decide) rfl rfl w14 L15c.out (fun k hk => by injection hk with hk; rw [← hk]; exact G15.out)
  have R15 := Lib.hid hr15
  have X15 := Lib.hid x15
  have L15 := Lib.hid bb15
  have B15 := Lib.hid (B14.out.trans (bb15.mono B14.out.size))
  clear s15 b15 hr15 x15 bb15
  go_wp2_with (at_builtin; refine append_by rfl (.tmp 84) (.tmp 87) 22 rfl _ _ _ w15 rfl rfl R15.out ?_)
  -- what each row reads, at the last world
  have T1 := Lib.hid (((((((((((((((S1.out).below L2.out).below L3.out).below L4.out).below L5.out).below L6.out).below L7.out).below L8.out).below L9.out).below L10.out).below L11.out).below L12.out).below L13.out).below L14.out).below L15.out)
  have T2 := Lib.hid ((((((((((((((S2.out).below L3.out).below L4.out).below L5.out).below L6.out).below L7.out).below L8.out).below L9.out).below L10.out).below L11.out).below L12.out).below L13.out).below L14.out).below L15.out)
  have T3 := Lib.hid (((((((((((((S3.out).below L4.out).below L5.out).below L6.out).below L7.out).below L8.out).below L9.out).below L10.out).below L11.out).below L12.out).below L13.out).below L14.out).below L15.out)
  have T4 := Lib.hid ((((((((((((S4.out).below L5.out).below L6.out).below L7.out).below L8.out).below L9.out).below L10.out).below L11.out).below L12.out).below L13.out).below L14.out).below L15.out)
  have T5 := Lib.hid (((((((((((S5.out).below L6.out).below L7.out).below L8.out).below L9.out).below L10.out).below L11.out).below L12.out).below L13.out).below L14.out).below L15.out)
  have T6 := Lib.hid ((((((((((S6.out).below L7.out).below L8.out).below L9.out).below L10.out).below L11.out).below L12.out).below L13.out).below L14.out).below L15.out)
  have T7 := Lib.hid (((((((((S7.out).below L8.out).below L9.out).below L10.out).below L11.out).below L12.out).below L13.out).below L14.out).below L15.out)
  have T8 := Lib.hid ((((((((S8.out).below L9.out).below L10.out).below L11.out).below L12.out).below L13.out).below L14.out).below L15.out)
  have T9 := Lib.hid (((((((S9.out).below L10.out).below L11.out).below L12.out).below L13.out).below L14.out).below L15.out)
  have T10 := Lib.hid ((((((S10.out).below L11.out).below L12.out).below L13.out).below L14.out).below L15.out)
  have T11 := Lib.hid (((((S11.out).below L12.out).below L13.out).below L14.out).below L15.out)
  have T12 := Lib.hid ((((S12.out).below L13.out).below L14.out).below L15.out)
  have T13 := Lib.hid (((S13.out).below L14.out).below L15.out)
  have T14 := Lib.hid ((S14.out).below L15.out)
  have T15 := Lib.hid (X15.out)
  obtain ⟨w16, hw16⟩ : ∃ w16, w16 = w15.alloc (.cells #[.int .i64 1, .slice none 0 0, .int .i64 0, .int .u64 0, .int .i64 0, .int .i64 1, .slice A1 1 c1, .int .i64 1, .int .u64 5, .int .i64 0, .int .i64 0, .slice A2 1 c2, .int .i64 1, .int .u64 5, .int .i64 0, .int .i64 1, .slice A3 1 c3, .int .i64 0, .int .u64 0, .int .i64 22, .int .i64 1, .slice A4 1 c4, .int .i64 0, .int .u64 0, .int .i64 22, .int .i64 1, .slice A5 2 c5, .int .i64 1, .int .u64 5, .int .i64 0, .int .i64 1, .slice A6 1 c6, .int .i64 0, .int .u64 0, .int .i64 22, .int .i64 1, .slice A7 1 c7, .int .i64 1, .int .u64 4096, .int .i64 0, .int .i64 1, .slice A8 1 c8, .int .i64 0, .int .u64 0, .int .i64 21, .int .i64 1, .slice A9 1 c9, .int .i64 0, .int .u64 0, .int .i64 21, .int .i64 1, .slice A10 2 c10, .int .i64 0, .int .u64 0, .int .i64 22, .int .i64 1, .slice A11 1 c11, .int .i64 0, .int .u64 0, .int .i64 22, .int .i64 0, .slice A12 1 c12, .int .i64 0, .int .u64 0, .int .i64 22, .int .i64 1, .slice A13 1 c13, .int .i64 0, .int .u64 0, .int .i64 22, .int .i64 1, .slice A14 1 c14, .int .i64 0, .int .u64 0, .int .i64 22, .int .i64 1, .slice D15 2 d15, .int .i64 0, .int .u64 0, .int .i64 22, .int .i64 2, .slice none 0 0, .int .i64 0, .int .u64 0, .int .i64 1, .int .i64 (-1), .slice none 0 0, .int .i64 0, .int .u64 0, .int .i64 1] 49) := ⟨_, rfl⟩
  rw [← hw16]
  obtain ⟨T, hT⟩ : ∃ T : List Rw, T = [((1 : Int), none, 0, 0, [], (0, 0, 0)), ((1 : Int), A1, 1, c1, [(clN, [53])], (1, 5, 0)), ((0 : Int), A2, 1, c2, [(clN, [53])], (1, 5, 0)), ((1 : Int), A3, 1, c3, [(clN, [43, 53])], (0, 0, 22)), ((1 : Int), A4, 1, c4, [(clN, [])], (0, 0, 22)), ((1 : Int), A5, 2, c5, [(clN, [53]), (clN, [])], (1, 5, 0)), ((1 : Int), A6, 1, c6, [(clN, [53, 44, 54])], (0, 0, 22)), ((1 : Int), A7, 1, c7, [(clN, [52, 48, 57, 54])], (1, 4096, 0)), ((1 : Int), A8, 1, c8, [(clN, [52, 48, 57, 55])], (0, 0, 21)), ((1 : Int), A9, 1, c9, [(clN, [57, 57, 57, 57, 57, 57, 57, 57, 57, 57, 57, 57, 57, 57, 57, 57, 57, 57, 57, 57])], (0, 0, 21)), ((1 : Int), A10, 2, c10, [(clN, [57, 57, 57, 57, 57, 57, 57, 57, 57, 57, 57, 57, 57, 57, 57, 57, 57, 57, 57, 57]), (clN, [57, 57, 57, 57, 57, 57, 57, 57, 57, 57, 57, 57, 57, 57, 57, 57, 57, 57, 57, 56])], (0, 0, 22)), ((1 : Int), A11, 1, c11, [(teN, [103, 122, 105, 112, 44, 32, 99, 104, 117, 110, 107, 101, 100])], (0, 0, 22)), ((0 : Int), A12, 1, c12, [(teN, [99, 104, 117, 110, 107, 101, 100])], (0, 0, 22)), ((1 : Int), A13, 1, c13, [(teN, [])], (0, 0, 22)), ((1 : Int), A14, 1, c14, [(teN, [99, 104, 117, 110, 107, 101, 100, 44, 32, 99, 104, 117, 110, 107, 101, 100])], (0, 0, 22)), ((1 : Int), D15, 2, d15, [(teN, [99, 104, 117, 110, 107, 101, 100]), (clN, [53])], (0, 0, 22)), ((2 : Int), none, 0, 0, [], (0, 0, 1)), ((-1 : Int), none, 0, 0, [], (0, 0, 1))] := ⟨_, rfl⟩
  have b16 : Below w15.heap.size w15 w16 := by rw [hw16]; exact (Below.refl _ _).alloc (Nat.le_refl _) _
  have B16 := Lib.hid (B15.out.trans (b16.mono B15.out.size))
  have HOK := Lib.hid (show ∀ r ∈ T, RwOk w16 r from by
    have key : ∀ r ∈ T, RwOk w15 r := by
      rw [hT]
      intro r hr
      simp only [List.mem_cons, List.not_mem_nil, or_false] at hr
      rcases hr with rfl | rfl | rfl | rfl | rfl | rfl | rfl | rfl | rfl | rfl | rfl | rfl | rfl | rfl | rfl | rfl | rfl | rfl
      · exact ⟨rfl, fun h => absurd h (by simp), bulk0, row0⟩
      · exact ⟨rfl, T1.out, bulk1, row1⟩
      · exact ⟨rfl, T2.out, bulk2, row2⟩
      · exact ⟨rfl, T3.out, bulk3, row3⟩
      · exact ⟨rfl, T4.out, bulk4, row4⟩
      · exact ⟨rfl, T5.out, bulk5, row5⟩
      · exact ⟨rfl, T6.out, bulk6, row6⟩
      · exact ⟨rfl, T7.out, bulk7, row7⟩
      · exact ⟨rfl, T8.out, bulk8, row8⟩
      · exact ⟨rfl, T9.out, bulk9, row9⟩
      · exact ⟨rfl, T10.out, bulk10, row10⟩
      · exact ⟨rfl, T11.out, bulk11, row11⟩
      · exact ⟨rfl, T12.out, bulk12, row12⟩
      · exact ⟨rfl, T13.out, bulk13, row13⟩
      · exact ⟨rfl, T14.out, bulk14, row14⟩
      · exact ⟨rfl, T15.out, bulk15, row15⟩
      · exact ⟨rfl, fun h => absurd h (by simp), bulk16, row16⟩
      · exact ⟨rfl, fun h => absurd h (by simp), bulk17, row17⟩
    exact fun r hr => (key r hr).below b16)
  have HL := Lib.hid (show T.length = 18 by rw [hT]; rfl)
  have HI := Lib.hid (show Is w16 w15.heap.size 49 (rws T) by rw [hw16, hT]; exact Is.made w15 49 (rws [((1 : Int), none, 0, 0, [], (0, 0, 0)), ((1 : Int), A1, 1, c1, [(clN, [53])], (1, 5, 0)), ((0 : Int), A2, 1, c2, [(clN, [53])], (1, 5, 0)), ((1 : Int), A3, 1, c3, [(clN, [43, 53])], (0, 0, 22)), ((1 : Int), A4, 1, c4, [(clN, [])], (0, 0, 22)), ((1 : Int), A5, 2, c5, [(clN, [53]), (clN, [])], (1, 5, 0)), ((1 : Int), A6, 1, c6, [(clN, [53, 44, 54])], (0, 0, 22)), ((1 : Int), A7, 1, c7, [(clN, [52, 48, 57, 54])], (1, 4096, 0)), ((1 : Int), A8, 1, c8, [(clN, [52, 48, 57, 55])], (0, 0, 21)), ((1 : Int), A9, 1, c9, [(clN, [57, 57, 57, 57, 57, 57, 57, 57, 57, 57, 57, 57, 57, 57, 57, 57, 57, 57, 57, 57])], (0, 0, 21)), ((1 : Int), A10, 2, c10, [(clN, [57, 57, 57, 57, 57, 57, 57, 57, 57, 57, 57, 57, 57, 57, 57, 57, 57, 57, 57, 57]), (clN, [57, 57, 57, 57, 57, 57, 57, 57, 57, 57, 57, 57, 57, 57, 57, 57, 57, 57, 57, 56])], (0, 0, 22)), ((1 : Int), A11, 1, c11, [(teN, [103, 122, 105, 112, 44, 32, 99, 104, 117, 110, 107, 101, 100])], (0, 0, 22)), ((0 : Int), A12, 1, c12, [(teN, [99, 104, 117, 110, 107, 101, 100])], (0, 0, 22)), ((1 : Int), A13, 1, c13, [(teN, [])], (0, 0, 22)), ((1 : Int), A14, 1, c14, [(teN, [99, 104, 117, 110, 107, 101, 100, 44, 32, 99, 104, 117, 110, 107, 101, 100])], (0, 0, 22)), ((1 : Int), D15, 2, d15, [(teN, [99, 104, 117, 110, 107, 101, 100]), (clN, [53])], (0, 0, 22)), ((2 : Int), none, 0, 0, [], (0, 0, 1)), ((-1 : Int), none, 0, 0, [], (0, 0, 1))]))
  clear hT hw16 b16
  obtain ⟨g16, hg16⟩ : ∃ g, g = w15.heap.size := ⟨_, rfl⟩
  rw [← hg16] at HI
  rw [← hg16]
  clear hg16
  go_loopw [94, 4, 98, 5, 6, 7] (fun vi v1 v2 v3 v4 v5 wr => ∃ k : Nat, vi = .int .i64 (k : Int) ∧ k ≤ 18 ∧ Hid (Below w16.heap.size w16 wr)) (fun vi _ _ _ _ _ _ => 18 - (intOf vi).toNat)
  case atStart => exact ⟨0, rfl, Nat.zero_le _, Lib.hid (Below.refl _ _)⟩
  case round =>
    obtain ⟨k, rfl, hk, HB⟩ := hrel
    by_cases hlt : k < 18
    · obtain ⟨p, r, hr, hat, y0, y1, y2, y3, y4⟩ := row_at T HL.out HI.out HOK.out k hlt HB.out
      obtain ⟨mi, A, n, c, ls, kk, kl, ke⟩ := r
      obtain ⟨hr1, hr2, hr3, hr4⟩ := hr
      simp only at hr1 hr2 hr3 hr4 y0 y1 y2 y3 y4
      have CR := Lib.hid (fun (X : World) (hX : Below w16.heap.size w16 X) => request_any mi X A ls n c hr1 (hr2.below hX) (Meek.small (by omega)).fit)
      rw [hr4] at CR
      unfold Tells kdV at CR
      simp only at CR
      have HB0 := Lib.hid (HB.out.alloc HB.out.size (.cells #[.int .i64 mi, .slice A n c, .int .i64 (kk : Int), .int .u64 (kl : Int), .int .i64 (ke : Int)] 49))
      have I0 := Lib.hid (Is.made wr 49 [.int .i64 mi, .slice A n c, .int .i64 (kk : Int), .int .u64 (kl : Int), .int .i64 (ke : Int)])
      clear hr1 hr2 hr3 hr4
      go_wp2_with fail
      refine (CR.out _ HB0.out).mono ?_
      rintro e w5 ⟨rfl, b5⟩
      have B5 := Lib.hid (HB0.out.trans (b5.mono HB0.out.size))
      have I5 := Lib.hid (I0.out.kept (Turn.of_below (S := fun _ => False) b5) (fun h => h))
      have x2 : w5.cell? ⟨wr.heap.size, 2, none⟩ = some (.int .i64 (kk : Int)) := I5.out.cell 2
      have x3 : w5.cell? ⟨wr.heap.size, 3, none⟩ = some (.int .u64 (kl : Int)) := I5.out.cell 3
      have x4 : w5.cell? ⟨wr.heap.size, 4, none⟩ = some (.int .i64 (ke : Int)) := I5.out.cell 4
      have e1 : ((kk : Int) != (kk : Int)) = false := by simp
      have e2 : ((kl : Int) != (kl : Int)) = false := by simp
      have e3 : ((ke : Int) != (ke : Int)) = false := by simp
      clear b5 I0 HB0 CR y0 y1 y2 y3 y4 hat
      go_wp2_with fail
      go_roundw
      case rel => exact ⟨k + 1, by go_num, hlt, B5⟩
      case measure => simp [intOf]; omega
    · have E0 := Lib.hid (B16.out.trans (HB.out.mono B16.out.size))
      go_wp2_with fail
      refine (Qa.out _ none 0 (fun h => absurd h (by simp))).mono ?_
      rintro e va ⟨rfl, ba⟩
      have Ea := Lib.hid (E0.out.trans (ba.mono E0.out.size))
      clear ba
      go_wp2_with fail
      refine (Qb.out _ none 0 (fun h => absurd h (by simp))).mono ?_
      rintro e vb ⟨rfl, bb⟩
      have Eb := Lib.hid (Ea.out.trans (bb.mono Ea.out.size))
      clear bb
      go_wp2_with fail
      refine (K17.out _).mono ?_
      rintro e w17 ⟨A17, c17, rfl, s17, b17⟩
      have S17 := Lib.hid s17
      have B17 := Lib.hid (Eb.out.trans (b17.mono Eb.out.size))
      have L17 := Lib.hid b17
      clear s17 b17
      go_wp2_with fail
      refine (Qc.out _ _ _ S17.out).mono ?_
      rintro e vc ⟨rfl, bc⟩
      have Ec := Lib.hid (B17.out.trans (bc.mono B17.out.size))
      clear bc
      go_wp2_with fail
      refine (K18t.out _).mono ?_
      rintro e w18t ⟨g18, rfl, own18, hg18, hz18, b18⟩
      have O18 := Lib.hid own18
      have G18 := Lib.hid hg18
      have B18t := Lib.hid (Ec.out.trans (b18.mono Ec.out.size))
      have L18t := Lib.hid b18
      clear own18 hg18 hz18 b18
      go_wp2_with fail
      refine (K18.out _).mono ?_
      rintro e w18c ⟨A18, c18, rfl, s18, b18⟩
      have S18 := Lib.hid s18
      have B18c := Lib.hid (B18t.out.trans (b18.mono B18t.out.size))
      have L18c := Lib.hid (L18t.out.trans (b18.mono L18t.out.size))
      obtain ⟨D18, d18, w18, hr18, x18, bb18⟩ := app_made w18c _ _ _ _ [(teN, [99, 104, 117, 110, 107, 101, 100]), (clN, [53])] (O18.out.kept (Turn.of_below (S := fun _ => False) b18) (fun _ _ h => h)) A18 1 c18 2 rfl s18 (by decide) rfl rfl vc L18c.out (fun k hk => by injection hk with hk; rw [← hk]; exact G18.out)
      have R18 := Lib.hid hr18
      have X18 := Lib.hid x18
      have L18 := Lib.hid bb18
      have B18 := Lib.hid (Ec.out.trans (bb18.mono Ec.out.size))
      clear s18 b18 hr18 x18 bb18
      go_wp2_with (at_builtin; refine append_by rfl (.tmp 144) (.tmp 147) 22 rfl _ _ _ w18 rfl rfl R18.out ?_)
      refine (Qd.out _ _ _ X18.out).mono ?_
      rintro e vd ⟨rfl, bd⟩
      have Ed := Lib.hid (B18.out.trans (bd.mono B18.out.size))
      clear bd
      go_wp2_with fail
      refine (K19.out _).mono ?_
      rintro e w19 ⟨A19, c19, rfl, s19, b19⟩
      have S19 := Lib.hid s19
      have B19 := Lib.hid (Ed.out.trans (b19.mono Ed.out.size))
      have L19 := Lib.hid b19
      clear s19 b19
      go_wp2_with fail
      refine (Qe.out _ _ _ S19.out).mono ?_
      rintro e ve ⟨rfl, be⟩
      have Ee := Lib.hid (B19.out.trans (be.mono B19.out.size))
      clear be
      go_wp2_with fail
      refine (K20.out _).mono ?_
      rintro e w20 ⟨A20, c20, rfl, s20, b20⟩
      have S20 := Lib.hid s20
      have B20 := Lib.hid (Ee.out.trans (b20.mono Ee.out.size))
      have L20 := Lib.hid b20
      clear s20 b20
      go_wp2_with fail
      refine (Qf.out _ _ _ S20.out).mono ?_
      rintro e vf ⟨rfl, bf⟩
      have Ef := Lib.hid (B20.out.trans (bf.mono B20.out.size))
      clear bf
      go_wp2_with fail
      go_ret
      exact ⟨rfl, Ef.out⟩
end Go.Proofs.YtcpohdejdiljnaaDoor
