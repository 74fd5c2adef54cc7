/-
  What package uri's Parse does.
  Conditions: those that each theorem names; Go's table of powers of ten is as its text lays it.
-/
import Derived.Test.YthkcniimnaephaaGreatDoorYJ
import Derived.Laws.Rows
namespace Go.Proofs.YthkcniimnaephaaGreatDoor.Uri
open Go.RowKit

theorem results_cell1 {P : Program} {fn : Func} {p t : Tmp} {ty : TypeId} (h : fn.results = #[.cell p ty, .tmp t]) (tmps : Array Value) (w : World) (g : Nat) (tt : TypeId) (cs : Array Value) (fr : Nat × Nat) (d : TypeDesc)
    (hp : tmps.getD p undef = .pointer (some ⟨g, 0, none⟩)) (hg : w.heap[g]? = some (.cells cs tt fr))
    (hu : P.underlying ty = some d) (hd : (match d with | .struct _ | .array _ _ => true | _ => false) = true) (hi : (P.info? ty).map (·.size) = some cs.size) :
    (results fn tmps).run P w = .ok (.tuple #[.agg cs, tmps.getD t undef]) w := by
  have hp' : tmps[p]?.getD undef = .pointer (some ⟨g, 0, none⟩) := by simpa using hp
  simp [results, h, hp', asAddr, run_loadVar_row w g tt ty cs fr d hg hu hd hi]
/-- Three cells are stored. -/
def put3 (X : World) (g : Nat) (a b c : Value) : World := ((X.setCell ⟨g, 0, none⟩ a).setCell ⟨g, 1, none⟩ b).setCell ⟨g, 2, none⟩ c
theorem put3_is {X : World} {g : Nat} {T : TypeId} {a' b' c' : Value} (h : Is X g T [a', b', c']) (a b c : Value) : Is (put3 X g a b c) g T [a, b, c] := ((h.set 0 a).set 1 b).set 2 c
theorem put3_below {W X : World} {g : Nat} (hB : Below W.heap.size W X) (hg : W.heap.size ≤ g) (a b c : Value) : Below W.heap.size W (put3 X g a b c) := by
  have ht := (((Turn.refl (· = g) X).setCell (p := ⟨g, 0, none⟩) (fun _ => rfl) a).setCell (p := ⟨g, 1, none⟩) (fun _ => rfl) b).setCell (p := ⟨g, 2, none⟩) (fun _ => rfl) c
  exact hB.trans ⟨ht.os, ht.tape, ht.output, ht.size, fun k hk => ht.block k (by have := hB.size; omega) (by omega)⟩

/-- What Parse tells. -/
def urlT (r : Option (List UInt8 × Nat × List UInt8)) : List UInt8 × Int × List UInt8 × Int := match r with
  | none => ([], 0, [], 23)
  | some (h, p, q) => (h, (p : Int), q, 0)
def UrlGot (x : List UInt8 × Int × List UInt8 × Int) (w : World) (e : Ending) (w' : World) : Prop :=
  e = .returned (.tuple #[.agg #[.string ⟨x.1.toArray⟩, .int .i64 x.2.1, .string ⟨x.2.2.1.toArray⟩], .int .i64 x.2.2.2]) ∧ Below w.heap.size w w'
def httpS : ByteArray := ⟨#[104, 116, 116, 112, 58, 47, 47]⟩
theorem low_http : lowF (bl httpS) = httpL := by decide
theorem parse_out (t : List UInt8) (h : (lowF (t.take 7) == httpL) = false) : parseF t = none := by
  unfold parseF
  rw [if_neg (by simpa using h)]
theorem parse_in (t : List UInt8) (h : (lowF (t.take 7) == httpL) = true) : parseF t = endF (authorityF (colonF (cutA (t.drop 7)).1)) (slashF (cutA (t.drop 7)).2) := by
  unfold parseF
  rw [if_pos (by simpa using h)]
theorem seven {t : List UInt8} (h : (lowF (t.take 7) == httpL) = true) : 7 ≤ t.length := by
  have := congrArg List.length (beq_iff_eq.1 h)
  rw [lowF_length, List.length_take] at this
  have h7 : httpL.length = 7 := rfl
  omega
theorem end_none (q : List UInt8) : endF none q = none := rfl
theorem end_long (h q : List UInt8) (p : Nat) (hl : ¬ (textF h (p : Int) q).length ≤ 384) : endF (some (h, p)) q = none := by
  unfold endF
  simp only
  rw [if_neg (fun x => hl x.1)]
theorem end_path (h q : List UInt8) (p : Nat) (hl : pathF q = false) : endF (some (h, p)) q = none := by
  unfold endF
  simp only
  rw [if_neg (fun x => by rw [hl] at x; cases x.2)]
theorem end_some (h q : List UInt8) (p : Nat) (hl : (textF h (p : Int) q).length ≤ 384) (hp : pathF q = true) : endF (some (h, p)) q = some (h, p, q) := by
  unfold endF
  simp only
  rw [if_pos ⟨hl, hp⟩]
theorem text_size (h q : List UInt8) (p : Int) : q.length ≤ (textF h p q).length := by
  unfold textF
  rw [List.length_append]
  omega

set_option maxHeartbeats 4000000 in
theorem parse_no_short (s : ByteArray) (w : World) (h7 : s.size < 7) (hb : (lowF ((bl s).take 7) == httpL) = false) (hp : PowTab w) : Calls Tryz.prog 16 #[.string s] w (UrlGot (urlT (parseF (bl s))) w) := by
  obtain ⟨g, hg⟩ : ∃ g, w.heap.size = g := ⟨_, rfl⟩
  have I0 := Lib.hid (show Is (w.alloc (.cells #[.string ⟨#[]⟩, .int .i64 0, .string ⟨#[]⟩] 23)) g 23 [.string ⟨#[]⟩, .int .i64 0, .string ⟨#[]⟩] by have := Is.made w 23 [.string ⟨#[]⟩, .int .i64 0, .string ⟨#[]⟩]; rwa [hg] at this)
  have B0 := Lib.hid (show Below w.heap.size w (w.alloc (.cells #[.string ⟨#[]⟩, .int .i64 0, .string ⟨#[]⟩] 23)) from (Below.refl _ _).alloc (Nat.le_refl _) _)
  have HP := Lib.hid hp
  have HG := Lib.hid hg
  have HR := Lib.hid (parse_out (bl s) hb)
  have CS := fun X : World => ty_same s httpS X
  rw [low_http, show bl s = (bl s).take 7 from (List.take_of_length_le (by rw [bl_length]; omega)).symm, hb] at CS
  have C := Lib.hid CS
  have m1 : (s.size : Int) < 7 := by omega
  have m2 : min (s.size : Int) 7 = (s.size : Int) := by omega
  have m3 : min s.size 7 = s.size := by omega
  unfold UrlGot
  clear CS hb hg hp h7
  go_enter Tryz.func16, Tryz.ntmps16
  go_wp2_with fail
  try simp only [HG.out]
  refine (C.out _).mono ?_
  rintro e w1 ⟨rfl, b1⟩
  have I1 := Lib.hid (I0.out.kept (Turn.of_below (S := fun _ => False) b1) (fun h => h))
  have B1 := Lib.hid (B0.out.trans (b1.mono B0.out.size))
  clear b1 I0 B0
  have c0 : w1.cell? ⟨g, 0, none⟩ = some (.string ⟨#[]⟩) := I1.out.cell 0
  have f0 : w1.frozen? ⟨g, 0, none⟩ = false := I1.out.free 0
  have c1 : w1.cell? ⟨g, 1, none⟩ = some (.int .i64 0) := I1.out.cell 1
  have f1 : w1.frozen? ⟨g, 1, none⟩ = false := I1.out.free 1
  have c2 : w1.cell? ⟨g, 2, none⟩ = some (.string ⟨#[]⟩) := I1.out.cell 2
  have f2 : w1.frozen? ⟨g, 2, none⟩ = false := I1.out.free 2
  have I9 := Lib.hid (put3_is I1.out (.string ⟨#[]⟩) (.int .i64 0) (.string ⟨#[]⟩))
  have B9 := Lib.hid (put3_below B1.out (Nat.le_of_eq HG.out) (.string ⟨#[]⟩) (.int .i64 0) (.string ⟨#[]⟩))
  go_wp2_with fail
  refine bodyPost_ret (results_cell1 rfl _ _ g _ _ _ _ rfl I9.out Tryz.underlying23 rfl (by kernel_rfl)) rfl ?_
  exact ⟨by rw [HR.out]; rfl, B9.out⟩

set_option maxHeartbeats 4000000 in
theorem parse_no_long (s : ByteArray) (w : World) (h7 : ¬ s.size < 7) (hb : (lowF ((bl s).take 7) == httpL) = false) (hp : PowTab w) : Calls Tryz.prog 16 #[.string s] w (UrlGot (urlT (parseF (bl s))) w) := by
  obtain ⟨g, hg⟩ : ∃ g, w.heap.size = g := ⟨_, rfl⟩
  have I0 := Lib.hid (show Is (w.alloc (.cells #[.string ⟨#[]⟩, .int .i64 0, .string ⟨#[]⟩] 23)) g 23 [.string ⟨#[]⟩, .int .i64 0, .string ⟨#[]⟩] by have := Is.made w 23 [.string ⟨#[]⟩, .int .i64 0, .string ⟨#[]⟩]; rwa [hg] at this)
  have B0 := Lib.hid (show Below w.heap.size w (w.alloc (.cells #[.string ⟨#[]⟩, .int .i64 0, .string ⟨#[]⟩] 23)) from (Below.refl _ _).alloc (Nat.le_refl _) _)
  have HP := Lib.hid hp
  have HG := Lib.hid hg
  have HR := Lib.hid (parse_out (bl s) hb)
  have CS := fun X : World => ty_same (s.extract 0 7) httpS X
  rw [extract_bl, piece_front, low_http, hb] at CS
  have C := Lib.hid CS
  have m1 : ¬ (s.size : Int) < 7 := by omega
  have m2 : min (s.size : Int) 7 = 7 := by omega
  have m4 : (7 : Int) ≤ (s.size : Int) := by omega
  unfold UrlGot
  clear CS hb hg hp h7
  go_enter Tryz.func16, Tryz.ntmps16
  go_wp2_with fail
  try simp only [HG.out]
  refine (C.out _).mono ?_
  rintro e w1 ⟨rfl, b1⟩
  have I1 := Lib.hid (I0.out.kept (Turn.of_below (S := fun _ => False) b1) (fun h => h))
  have B1 := Lib.hid (B0.out.trans (b1.mono B0.out.size))
  clear b1 I0 B0
  have c0 : w1.cell? ⟨g, 0, none⟩ = some (.string ⟨#[]⟩) := I1.out.cell 0
  have f0 : w1.frozen? ⟨g, 0, none⟩ = false := I1.out.free 0
  have c1 : w1.cell? ⟨g, 1, none⟩ = some (.int .i64 0) := I1.out.cell 1
  have f1 : w1.frozen? ⟨g, 1, none⟩ = false := I1.out.free 1
  have c2 : w1.cell? ⟨g, 2, none⟩ = some (.string ⟨#[]⟩) := I1.out.cell 2
  have f2 : w1.frozen? ⟨g, 2, none⟩ = false := I1.out.free 2
  have I9 := Lib.hid (put3_is I1.out (.string ⟨#[]⟩) (.int .i64 0) (.string ⟨#[]⟩))
  have B9 := Lib.hid (put3_below B1.out (Nat.le_of_eq HG.out) (.string ⟨#[]⟩) (.int .i64 0) (.string ⟨#[]⟩))
  go_wp2_with fail
  refine bodyPost_ret (results_cell1 rfl _ _ g _ _ _ _ rfl I9.out Tryz.underlying23 rfl (by kernel_rfl)) rfl ?_
  exact ⟨by rw [HR.out]; rfl, B9.out⟩

set_option maxHeartbeats 8000000 in
theorem parse_yes_cs (s : ByteArray) (w : World) (hs : s.size ≤ 281474976710000) (hb : (lowF ((bl s).take 7) == httpL) = true) (hc : (cutA ((bl s).drop 7)).1.contains 58 = true) (hq : decide ((cutA ((bl s).drop 7)).2.take 1 = [47]) = true) (hp : PowTab w) : Calls Tryz.prog 16 #[.string s] w (UrlGot (urlT (parseF (bl s))) w) := by
  obtain ⟨g, hg⟩ : ∃ g, w.heap.size = g := ⟨_, rfl⟩
  have I0 := Lib.hid (show Is (w.alloc (.cells #[.string ⟨#[]⟩, .int .i64 0, .string ⟨#[]⟩] 23)) g 23 [.string ⟨#[]⟩, .int .i64 0, .string ⟨#[]⟩] by have := Is.made w 23 [.string ⟨#[]⟩, .int .i64 0, .string ⟨#[]⟩]; rwa [hg] at this)
  have B0 := Lib.hid (show Below w.heap.size w (w.alloc (.cells #[.string ⟨#[]⟩, .int .i64 0, .string ⟨#[]⟩] 23)) from (Below.refl _ _).alloc (Nat.le_refl _) _)
  have HP := Lib.hid hp
  have HG := Lib.hid hg
  have h7 := seven hb
  rw [bl_length] at h7
  have HE := Lib.hid (parse_in (bl s) hb)
  have m1 : ¬ (s.size : Int) < 7 := by omega
  have m2 : min (s.size : Int) 7 = 7 := by omega
  have m4 : (7 : Int) ≤ (s.size : Int) := by omega
  have CS := fun X : World => ty_same (s.extract 0 7) httpS X
  rw [extract_bl, piece_front, low_http, hb] at CS
  have C1 := Lib.hid CS
  have CU := fun X : World => ucut_any (s.extract 7 s.size) X (by have := extract_size s 7 s.size; omega)
  unfold CutA at CU
  rw [extract_bl, piece_back] at CU
  obtain ⟨l1, l2⟩ := cutA_len ((bl s).drop 7)
  rw [List.length_drop, bl_length] at l1 l2
  generalize (cutA ((bl s).drop 7)).1 = a at *
  generalize (cutA ((bl s).drop 7)).2 = q at *
  have C2 := Lib.hid CU
  have CC := fun X : World => contains_any ⟨a.toArray⟩ 58 X
  rw [bl_mk, hc] at CC
  have C3 := Lib.hid CC
  have CH := fun X : World => hasprefix_any ⟨q.toArray⟩ ⟨#[47]⟩ X
  rw [bl_mk, show (⟨#[47]⟩ : ByteArray).size = 1 from rfl, show bl (⟨#[47]⟩ : ByteArray) = [47] from rfl, hq] at CH
  have C4 := Lib.hid CH
  have z1 : ¬ 9223372036854775807 < a.length + 3 := by omega
  have z2 : ¬ 9223372036854775807 < 1 + q.length := by omega
  have hS : bl (⟨a.toArray⟩ : ByteArray) = colonF a := by
    unfold colonF
    rw [hc]
    rw [if_pos rfl, bl_mk]
  have hQ : bl (⟨q.toArray⟩ : ByteArray) = slashF q := by
    unfold slashF
    rw [if_pos (of_decide_eq_true hq), bl_mk]
  have sS : (⟨a.toArray⟩ : ByteArray).size ≤ 281474976710656 := by
    rw [← bl_length, hS]; unfold colonF; rw [hc]; rw [if_pos rfl]; omega
  have sQ : (⟨q.toArray⟩ : ByteArray).size ≤ 281474976710656 := by
    rw [← bl_length, hQ]; unfold slashF; rw [if_pos (of_decide_eq_true hq)]; omega
  have CA := fun (X : World) (hX : PowTab X) => authority_any (⟨a.toArray⟩ : ByteArray) X (by omega) hX
  unfold AuGot at CA
  rw [hS] at CA
  have CL := Lib.hid (fun X : World => clone_any (⟨q.toArray⟩ : ByteArray) X sQ)
  have hsl : (slashF q).length = (⟨q.toArray⟩ : ByteArray).size := by rw [← bl_length, hQ]
  have CW := fun (h : ByteArray) (p : Int) (X : World) (hh : h.size ≤ 64) (hpp : I64 p) (hX : PowTab X) => write_any h (⟨q.toArray⟩ : ByteArray) p X (by omega) (by omega) hpp hX
  rw [hQ] at CW
  have CP := fun (X : World) (hz : (slashF q).length ≤ 384) (hX : PowTab X) => path_any (⟨q.toArray⟩ : ByteArray) X (by omega) hX
  rw [hQ] at CP
  have HQ := Lib.hid hQ
  clear CS CU CC CH hb hg hp h7 l1 l2 hS hQ sS sQ hc hq hs hsl
  generalize slashF q = r at *
  have HSZ := Lib.hid (fun (h : List UInt8) (p : Int) => text_size h r p)
  have C6 := Lib.hid CW
  have C7 := Lib.hid CP
  clear CW CP
  generalize hau : authorityF (colonF a) = au at *
  unfold UrlGot
  cases au with
  | none =>
    have CA2 := Lib.hid CA
    have HR := Lib.hid (show parseF (bl s) = none from HE.out)
    clear CA hau HE
    unfold auV at CA2
    go_enter Tryz.func16, Tryz.ntmps16
    go_wp2_with fail
    try simp only [HG.out]
    refine (C1.out _).mono ?_
    rintro e w1 ⟨rfl, b1⟩
    have I1 := Lib.hid (I0.out.kept (Turn.of_below (S := fun _ => False) b1) (fun h => h))
    have B1 := Lib.hid (B0.out.trans (b1.mono B0.out.size))
    clear b1 I0 B0
    go_wp2_with fail
    refine (C2.out _).mono ?_
    rintro e w2 ⟨rfl, b2⟩
    have I2 := Lib.hid (I1.out.kept (Turn.of_below (S := fun _ => False) b2) (fun h => h))
    have B2 := Lib.hid (B1.out.trans (b2.mono B1.out.size))
    clear b2 I1 B1
    go_wp2_with fail
    refine (C3.out _).mono ?_
    rintro e w3 ⟨rfl, rfl⟩
    go_wp2_with fail
    refine (C4.out _).mono ?_
    rintro e w4 ⟨rfl, rfl⟩
    go_wp2_with fail
    refine (CA2.out _ (HP.out.below B2.out)).mono ?_
    rintro e w5 ⟨rfl, b5⟩
    have I5 := Lib.hid (I2.out.kept (Turn.of_below (S := fun _ => False) b5) (fun h => h))
    have B5 := Lib.hid (B2.out.trans (b5.mono B2.out.size))
    clear b5 I2 B2
    go_wp2_with fail
    refine (CL.out _).mono ?_
    rintro e w6 ⟨rfl, b6⟩
    have I6 := Lib.hid (I5.out.kept (Turn.of_below (S := fun _ => False) b6) (fun h => h))
    have B6 := Lib.hid (B5.out.trans (b6.mono B5.out.size))
    clear b6 I5 B5
    have I7 := Lib.hid (I6.out.alloc (.cells #[.string ⟨#[]⟩, .int .i64 0, .string (⟨q.toArray⟩ : ByteArray)] 23))
    have B7 := Lib.hid (B6.out.alloc B6.out.size (.cells #[.string ⟨#[]⟩, .int .i64 0, .string (⟨q.toArray⟩ : ByteArray)] 23))
    go_upto_region 11 with fail
    generalize w6.alloc _ = w7 at *
    have c0 : w7.cell? ⟨g, 0, none⟩ = some (.string ⟨#[]⟩) := I7.out.cell 0
    have f0 : w7.frozen? ⟨g, 0, none⟩ = false := I7.out.free 0
    have c1 : w7.cell? ⟨g, 1, none⟩ = some (.int .i64 0) := I7.out.cell 1
    have f1 : w7.frozen? ⟨g, 1, none⟩ = false := I7.out.free 1
    have c2 : w7.cell? ⟨g, 2, none⟩ = some (.string ⟨#[]⟩) := I7.out.cell 2
    have f2 : w7.frozen? ⟨g, 2, none⟩ = false := I7.out.free 2
    have I9 := Lib.hid (put3_is I7.out (.string ⟨#[]⟩) (.int .i64 0) (.string ⟨#[]⟩))
    have B9 := Lib.hid (put3_below B7.out (Nat.le_of_eq HG.out) (.string ⟨#[]⟩) (.int .i64 0) (.string ⟨#[]⟩))
    go_wp2_with fail
    refine bodyPost_ret (results_cell1 rfl _ _ g _ _ _ _ rfl I9.out Tryz.underlying23 rfl (by kernel_rfl)) rfl ?_
    exact ⟨by rw [HR.out]; rfl, B9.out⟩
  | some x =>
    obtain ⟨h, p⟩ := x
    have a1 := (authority_some hau).1
    have a2 := (authority_some hau).2.1
    have a3 := (authority_some hau).2.2.1
    have hh64 : (⟨h.toArray⟩ : ByteArray).size ≤ 64 := by rw [size_mk]; exact (named_parts a1).1
    have CA2 := Lib.hid CA
    unfold auV at CA2
    have C8 := Lib.hid (fun (X : World) (hX : PowTab X) => C6.out ⟨h.toArray⟩ (p : Int) X hh64 ⟨by omega, by omega⟩ hX)
    rw [bl_mk] at C8
    have hsz := HSZ.out h (p : Int)
    clear CA hau C6 HSZ a1 a2 a3
    by_cases hlen : (textF h (p : Int) r).length ≤ 384
    · have e1 : ¬ (384 : Int) < ((textF h (p : Int) r).length : Int) := by omega
      have CP := Lib.hid (fun (X : World) (hX : PowTab X) => C7.out X (by omega) hX)
      clear C7
      cases hpa : pathF r with
      | true =>
        have HR := Lib.hid (show parseF (bl s) = some (h, p, r) by rw [HE.out]; exact end_some h r p hlen hpa)
        rw [hpa] at CP
        clear HE hpa hlen hsz
        generalize textF h (p : Int) r = T at *
        go_enter Tryz.func16, Tryz.ntmps16
        go_wp2_with fail
        try simp only [HG.out]
        refine (C1.out _).mono ?_
        rintro e w1 ⟨rfl, b1⟩
        have I1 := Lib.hid (I0.out.kept (Turn.of_below (S := fun _ => False) b1) (fun h => h))
        have B1 := Lib.hid (B0.out.trans (b1.mono B0.out.size))
        clear b1 I0 B0
        go_wp2_with fail
        refine (C2.out _).mono ?_
        rintro e w2 ⟨rfl, b2⟩
        have I2 := Lib.hid (I1.out.kept (Turn.of_below (S := fun _ => False) b2) (fun h => h))
        have B2 := Lib.hid (B1.out.trans (b2.mono B1.out.size))
        clear b2 I1 B1
        go_wp2_with fail
        refine (C3.out _).mono ?_
        rintro e w3 ⟨rfl, rfl⟩
        go_wp2_with fail
        refine (C4.out _).mono ?_
        rintro e w4 ⟨rfl, rfl⟩
        go_wp2_with fail
        refine (CA2.out _ (HP.out.below B2.out)).mono ?_
        rintro e w5 ⟨rfl, b5⟩
        have I5 := Lib.hid (I2.out.kept (Turn.of_below (S := fun _ => False) b5) (fun h => h))
        have B5 := Lib.hid (B2.out.trans (b5.mono B2.out.size))
        clear b5 I2 B2
        go_wp2_with fail
        refine (CL.out _).mono ?_
        rintro e w6 ⟨rfl, b6⟩
        have I6 := Lib.hid (I5.out.kept (Turn.of_below (S := fun _ => False) b6) (fun h => h))
        have B6 := Lib.hid (B5.out.trans (b6.mono B5.out.size))
        clear b6 I5 B5
        have i7 := I6.out.alloc (.cells #[.string ⟨h.toArray⟩, .int .i64 (p : Int), .string (⟨q.toArray⟩ : ByteArray)] 23)
        have b7 := B6.out.alloc B6.out.size (.cells #[.string ⟨h.toArray⟩, .int .i64 (p : Int), .string (⟨q.toArray⟩ : ByteArray)] 23)
        have j7 := Is.made w6 23 [.string ⟨h.toArray⟩, .int .i64 (p : Int), .string (⟨q.toArray⟩ : ByteArray)]
        have I7 := Lib.hid i7
        have B7 := Lib.hid b7
        have J7 := Lib.hid j7
        clear i7 b7 j7
        go_upto_region 10 with fail
        generalize w6.alloc _ = w7 at *
        have y0 : w7.cell? ⟨w6.heap.size, 0, none⟩ = some (.string ⟨h.toArray⟩) := J7.out.cell 0
        have y1 : w7.cell? ⟨w6.heap.size, 1, none⟩ = some (.int .i64 (p : Int)) := J7.out.cell 1
        have y2 : w7.cell? ⟨w6.heap.size, 2, none⟩ = some (.string (⟨q.toArray⟩ : ByteArray)) := J7.out.cell 2
        go_wp2_with fail
        refine (C8.out _ (HP.out.below B7.out)).mono ?_
        rintro e w8 ⟨rfl, b8⟩
        have J8 := Lib.hid (J7.out.kept (Turn.of_below (S := fun _ => False) b8) (fun h => h))
        have I8 := Lib.hid (I7.out.kept (Turn.of_below (S := fun _ => False) b8) (fun h => h))
        have B8 := Lib.hid (B7.out.trans (b8.mono B7.out.size))
        clear b8 I7 B7
        go_wp2_with fail
        refine (CP.out _ (HP.out.below B8.out)).mono ?_
        rintro e w9 ⟨rfl, b9⟩
        have J9 := Lib.hid (J8.out.kept (Turn.of_below (S := fun _ => False) b9) (fun h => h))
        have I9 := Lib.hid (I8.out.kept (Turn.of_below (S := fun _ => False) b9) (fun h => h))
        have B9 := Lib.hid (B8.out.trans (b9.mono B8.out.size))
        clear b9 I8 B8
        have x0 : w9.cell? ⟨w6.heap.size, 0, none⟩ = some (.string ⟨h.toArray⟩) := J9.out.cell 0
        have x1 : w9.cell? ⟨w6.heap.size, 1, none⟩ = some (.int .i64 (p : Int)) := J9.out.cell 1
        have x2 : w9.cell? ⟨w6.heap.size, 2, none⟩ = some (.string (⟨q.toArray⟩ : ByteArray)) := J9.out.cell 2
        generalize w6.heap.size = g6 at *
        have c0 : w9.cell? ⟨g, 0, none⟩ = some (.string ⟨#[]⟩) := I9.out.cell 0
        have f0 : w9.frozen? ⟨g, 0, none⟩ = false := I9.out.free 0
        have c1 : w9.cell? ⟨g, 1, none⟩ = some (.int .i64 0) := I9.out.cell 1
        have f1 : w9.frozen? ⟨g, 1, none⟩ = false := I9.out.free 1
        have c2 : w9.cell? ⟨g, 2, none⟩ = some (.string ⟨#[]⟩) := I9.out.cell 2
        have f2 : w9.frozen? ⟨g, 2, none⟩ = false := I9.out.free 2
        have I10 := Lib.hid (put3_is I9.out (.string ⟨h.toArray⟩) (.int .i64 (p : Int)) (.string (⟨q.toArray⟩ : ByteArray)))
        have B10 := Lib.hid (put3_below B9.out (Nat.le_of_eq HG.out) (.string ⟨h.toArray⟩) (.int .i64 (p : Int)) (.string (⟨q.toArray⟩ : ByteArray)))
        go_wp2_with fail
        refine bodyPost_ret (results_cell1 rfl _ _ g _ _ _ _ rfl I10.out Tryz.underlying23 rfl (by kernel_rfl)) rfl ?_
        refine ⟨?_, B10.out⟩
        rw [HR.out]
        simp only [urlT]
        rw [← HQ.out, mk_bl]
        rfl
      | false =>
        have HR := Lib.hid (show parseF (bl s) = none by rw [HE.out]; exact end_path h r p hpa)
        rw [hpa] at CP
        clear HE hpa hlen hsz
        generalize textF h (p : Int) r = T at *
        go_enter Tryz.func16, Tryz.ntmps16
        go_wp2_with fail
        try simp only [HG.out]
        refine (C1.out _).mono ?_
        rintro e w1 ⟨rfl, b1⟩
        have I1 := Lib.hid (I0.out.kept (Turn.of_below (S := fun _ => False) b1) (fun h => h))
        have B1 := Lib.hid (B0.out.trans (b1.mono B0.out.size))
        clear b1 I0 B0
        go_wp2_with fail
        refine (C2.out _).mono ?_
        rintro e w2 ⟨rfl, b2⟩
        have I2 := Lib.hid (I1.out.kept (Turn.of_below (S := fun _ => False) b2) (fun h => h))
        have B2 := Lib.hid (B1.out.trans (b2.mono B1.out.size))
        clear b2 I1 B1
        go_wp2_with fail
        refine (C3.out _).mono ?_
        rintro e w3 ⟨rfl, rfl⟩
        go_wp2_with fail
        refine (C4.out _).mono ?_
        rintro e w4 ⟨rfl, rfl⟩
        go_wp2_with fail
        refine (CA2.out _ (HP.out.below B2.out)).mono ?_
        rintro e w5 ⟨rfl, b5⟩
        have I5 := Lib.hid (I2.out.kept (Turn.of_below (S := fun _ => False) b5) (fun h => h))
        have B5 := Lib.hid (B2.out.trans (b5.mono B2.out.size))
        clear b5 I2 B2
        go_wp2_with fail
        refine (CL.out _).mono ?_
        rintro e w6 ⟨rfl, b6⟩
        have I6 := Lib.hid (I5.out.kept (Turn.of_below (S := fun _ => False) b6) (fun h => h))
        have B6 := Lib.hid (B5.out.trans (b6.mono B5.out.size))
        clear b6 I5 B5
        have i7 := I6.out.alloc (.cells #[.string ⟨h.toArray⟩, .int .i64 (p : Int), .string (⟨q.toArray⟩ : ByteArray)] 23)
        have b7 := B6.out.alloc B6.out.size (.cells #[.string ⟨h.toArray⟩, .int .i64 (p : Int), .string (⟨q.toArray⟩ : ByteArray)] 23)
        have j7 := Is.made w6 23 [.string ⟨h.toArray⟩, .int .i64 (p : Int), .string (⟨q.toArray⟩ : ByteArray)]
        have I7 := Lib.hid i7
        have B7 := Lib.hid b7
        have J7 := Lib.hid j7
        clear i7 b7 j7
        go_upto_region 10 with fail
        generalize w6.alloc _ = w7 at *
        have y0 : w7.cell? ⟨w6.heap.size, 0, none⟩ = some (.string ⟨h.toArray⟩) := J7.out.cell 0
        have y1 : w7.cell? ⟨w6.heap.size, 1, none⟩ = some (.int .i64 (p : Int)) := J7.out.cell 1
        have y2 : w7.cell? ⟨w6.heap.size, 2, none⟩ = some (.string (⟨q.toArray⟩ : ByteArray)) := J7.out.cell 2
        go_wp2_with fail
        refine (C8.out _ (HP.out.below B7.out)).mono ?_
        rintro e w8 ⟨rfl, b8⟩
        have I8 := Lib.hid (I7.out.kept (Turn.of_below (S := fun _ => False) b8) (fun h => h))
        have B8 := Lib.hid (B7.out.trans (b8.mono B7.out.size))
        clear b8 I7 B7
        go_wp2_with fail
        refine (CP.out _ (HP.out.below B8.out)).mono ?_
        rintro e w9 ⟨rfl, b9⟩
        have I9 := Lib.hid (I8.out.kept (Turn.of_below (S := fun _ => False) b9) (fun h => h))
        have B9 := Lib.hid (B8.out.trans (b9.mono B8.out.size))
        clear b9 I8 B8
        have c0 : w9.cell? ⟨g, 0, none⟩ = some (.string ⟨#[]⟩) := I9.out.cell 0
        have f0 : w9.frozen? ⟨g, 0, none⟩ = false := I9.out.free 0
        have c1 : w9.cell? ⟨g, 1, none⟩ = some (.int .i64 0) := I9.out.cell 1
        have f1 : w9.frozen? ⟨g, 1, none⟩ = false := I9.out.free 1
        have c2 : w9.cell? ⟨g, 2, none⟩ = some (.string ⟨#[]⟩) := I9.out.cell 2
        have f2 : w9.frozen? ⟨g, 2, none⟩ = false := I9.out.free 2
        have I10 := Lib.hid (put3_is I9.out (.string ⟨#[]⟩) (.int .i64 0) (.string ⟨#[]⟩))
        have B10 := Lib.hid (put3_below B9.out (Nat.le_of_eq HG.out) (.string ⟨#[]⟩) (.int .i64 0) (.string ⟨#[]⟩))
        go_wp2_with fail
        refine bodyPost_ret (results_cell1 rfl _ _ g _ _ _ _ rfl I10.out Tryz.underlying23 rfl (by kernel_rfl)) rfl ?_
        exact ⟨by rw [HR.out]; rfl, B10.out⟩
    · have e1 : (384 : Int) < ((textF h (p : Int) r).length : Int) := by omega
      have HR := Lib.hid (show parseF (bl s) = none by rw [HE.out]; exact end_long h r p hlen)
      clear HE hlen hsz C7
      generalize textF h (p : Int) r = T at *
      go_enter Tryz.func16, Tryz.ntmps16
      go_wp2_with fail
      try simp only [HG.out]
      refine (C1.out _).mono ?_
      rintro e w1 ⟨rfl, b1⟩
      have I1 := Lib.hid (I0.out.kept (Turn.of_below (S := fun _ => False) b1) (fun h => h))
      have B1 := Lib.hid (B0.out.trans (b1.mono B0.out.size))
      clear b1 I0 B0
      go_wp2_with fail
      refine (C2.out _).mono ?_
      rintro e w2 ⟨rfl, b2⟩
      have I2 := Lib.hid (I1.out.kept (Turn.of_below (S := fun _ => False) b2) (fun h => h))
      have B2 := Lib.hid (B1.out.trans (b2.mono B1.out.size))
      clear b2 I1 B1
      go_wp2_with fail
      refine (C3.out _).mono ?_
      rintro e w3 ⟨rfl, rfl⟩
      go_wp2_with fail
      refine (C4.out _).mono ?_
      rintro e w4 ⟨rfl, rfl⟩
      go_wp2_with fail
      refine (CA2.out _ (HP.out.below B2.out)).mono ?_
      rintro e w5 ⟨rfl, b5⟩
      have I5 := Lib.hid (I2.out.kept (Turn.of_below (S := fun _ => False) b5) (fun h => h))
      have B5 := Lib.hid (B2.out.trans (b5.mono B2.out.size))
      clear b5 I2 B2
      go_wp2_with fail
      refine (CL.out _).mono ?_
      rintro e w6 ⟨rfl, b6⟩
      have I6 := Lib.hid (I5.out.kept (Turn.of_below (S := fun _ => False) b6) (fun h => h))
      have B6 := Lib.hid (B5.out.trans (b6.mono B5.out.size))
      clear b6 I5 B5
      have i7 := I6.out.alloc (.cells #[.string ⟨h.toArray⟩, .int .i64 (p : Int), .string (⟨q.toArray⟩ : ByteArray)] 23)
      have b7 := B6.out.alloc B6.out.size (.cells #[.string ⟨h.toArray⟩, .int .i64 (p : Int), .string (⟨q.toArray⟩ : ByteArray)] 23)
      have j7 := Is.made w6 23 [.string ⟨h.toArray⟩, .int .i64 (p : Int), .string (⟨q.toArray⟩ : ByteArray)]
      have I7 := Lib.hid i7
      have B7 := Lib.hid b7
      have J7 := Lib.hid j7
      clear i7 b7 j7
      go_upto_region 10 with fail
      generalize w6.alloc _ = w7 at *
      have y0 : w7.cell? ⟨w6.heap.size, 0, none⟩ = some (.string ⟨h.toArray⟩) := J7.out.cell 0
      have y1 : w7.cell? ⟨w6.heap.size, 1, none⟩ = some (.int .i64 (p : Int)) := J7.out.cell 1
      have y2 : w7.cell? ⟨w6.heap.size, 2, none⟩ = some (.string (⟨q.toArray⟩ : ByteArray)) := J7.out.cell 2
      go_wp2_with fail
      refine (C8.out _ (HP.out.below B7.out)).mono ?_
      rintro e w8 ⟨rfl, b8⟩
      have I8 := Lib.hid (I7.out.kept (Turn.of_below (S := fun _ => False) b8) (fun h => h))
      have B8 := Lib.hid (B7.out.trans (b8.mono B7.out.size))
      clear b8 I7 B7
      have c0 : w8.cell? ⟨g, 0, none⟩ = some (.string ⟨#[]⟩) := I8.out.cell 0
      have f0 : w8.frozen? ⟨g, 0, none⟩ = false := I8.out.free 0
      have c1 : w8.cell? ⟨g, 1, none⟩ = some (.int .i64 0) := I8.out.cell 1
      have f1 : w8.frozen? ⟨g, 1, none⟩ = false := I8.out.free 1
      have c2 : w8.cell? ⟨g, 2, none⟩ = some (.string ⟨#[]⟩) := I8.out.cell 2
      have f2 : w8.frozen? ⟨g, 2, none⟩ = false := I8.out.free 2
      have I9 := Lib.hid (put3_is I8.out (.string ⟨#[]⟩) (.int .i64 0) (.string ⟨#[]⟩))
      have B9 := Lib.hid (put3_below B8.out (Nat.le_of_eq HG.out) (.string ⟨#[]⟩) (.int .i64 0) (.string ⟨#[]⟩))
      go_wp2_with fail
      refine bodyPost_ret (results_cell1 rfl _ _ g _ _ _ _ rfl I9.out Tryz.underlying23 rfl (by kernel_rfl)) rfl ?_
      exact ⟨by rw [HR.out]; rfl, B9.out⟩

set_option maxHeartbeats 8000000 in
theorem parse_yes_ns (s : ByteArray) (w : World) (hs : s.size ≤ 281474976710000) (hb : (lowF ((bl s).take 7) == httpL) = true) (hc : (cutA ((bl s).drop 7)).1.contains 58 = false) (hq : decide ((cutA ((bl s).drop 7)).2.take 1 = [47]) = true) (hp : PowTab w) : Calls Tryz.prog 16 #[.string s] w (UrlGot (urlT (parseF (bl s))) w) := by
  obtain ⟨g, hg⟩ : ∃ g, w.heap.size = g := ⟨_, rfl⟩
  have I0 := Lib.hid (show Is (w.alloc (.cells #[.string ⟨#[]⟩, .int .i64 0, .string ⟨#[]⟩] 23)) g 23 [.string ⟨#[]⟩, .int .i64 0, .string ⟨#[]⟩] by have := Is.made w 23 [.string ⟨#[]⟩, .int .i64 0, .string ⟨#[]⟩]; rwa [hg] at this)
  have B0 := Lib.hid (show Below w.heap.size w (w.alloc (.cells #[.string ⟨#[]⟩, .int .i64 0, .string ⟨#[]⟩] 23)) from (Below.refl _ _).alloc (Nat.le_refl _) _)
  have HP := Lib.hid hp
  have HG := Lib.hid hg
  have h7 := seven hb
  rw [bl_length] at h7
  have HE := Lib.hid (parse_in (bl s) hb)
  have m1 : ¬ (s.size : Int) < 7 := by omega
  have m2 : min (s.size : Int) 7 = 7 := by omega
  have m4 : (7 : Int) ≤ (s.size : Int) := by omega
  have CS := fun X : World => ty_same (s.extract 0 7) httpS X
  rw [extract_bl, piece_front, low_http, hb] at CS
  have C1 := Lib.hid CS
  have CU := fun X : World => ucut_any (s.extract 7 s.size) X (by have := extract_size s 7 s.size; omega)
  unfold CutA at CU
  rw [extract_bl, piece_back] at CU
  obtain ⟨l1, l2⟩ := cutA_len ((bl s).drop 7)
  rw [List.length_drop, bl_length] at l1 l2
  generalize (cutA ((bl s).drop 7)).1 = a at *
  generalize (cutA ((bl s).drop 7)).2 = q at *
  have C2 := Lib.hid CU
  have CC := fun X : World => contains_any ⟨a.toArray⟩ 58 X
  rw [bl_mk, hc] at CC
  have C3 := Lib.hid CC
  have CH := fun X : World => hasprefix_any ⟨q.toArray⟩ ⟨#[47]⟩ X
  rw [bl_mk, show (⟨#[47]⟩ : ByteArray).size = 1 from rfl, show bl (⟨#[47]⟩ : ByteArray) = [47] from rfl, hq] at CH
  have C4 := Lib.hid CH
  have z1 : ¬ 9223372036854775807 < a.length + 3 := by omega
  have z2 : ¬ 9223372036854775807 < 1 + q.length := by omega
  have hS : bl ((⟨a.toArray⟩ : ByteArray) ++ (⟨#[58, 56, 48]⟩ : ByteArray)) = colonF a := by
    unfold colonF
    rw [hc]
    rw [if_neg Bool.false_ne_true, mk_append, bl_mk]
  have hQ : bl (⟨q.toArray⟩ : ByteArray) = slashF q := by
    unfold slashF
    rw [if_pos (of_decide_eq_true hq), bl_mk]
  have sS : ((⟨a.toArray⟩ : ByteArray) ++ (⟨#[58, 56, 48]⟩ : ByteArray)).size ≤ 281474976710656 := by
    rw [← bl_length, hS]; unfold colonF; rw [hc]; rw [if_neg Bool.false_ne_true, List.length_append]; simp; omega
  have sQ : (⟨q.toArray⟩ : ByteArray).size ≤ 281474976710656 := by
    rw [← bl_length, hQ]; unfold slashF; rw [if_pos (of_decide_eq_true hq)]; omega
  have CA := fun (X : World) (hX : PowTab X) => authority_any ((⟨a.toArray⟩ : ByteArray) ++ (⟨#[58, 56, 48]⟩ : ByteArray)) X (by omega) hX
  unfold AuGot at CA
  rw [hS] at CA
  have CL := Lib.hid (fun X : World => clone_any (⟨q.toArray⟩ : ByteArray) X sQ)
  have hsl : (slashF q).length = (⟨q.toArray⟩ : ByteArray).size := by rw [← bl_length, hQ]
  have CW := fun (h : ByteArray) (p : Int) (X : World) (hh : h.size ≤ 64) (hpp : I64 p) (hX : PowTab X) => write_any h (⟨q.toArray⟩ : ByteArray) p X (by omega) (by omega) hpp hX
  rw [hQ] at CW
  have CP := fun (X : World) (hz : (slashF q).length ≤ 384) (hX : PowTab X) => path_any (⟨q.toArray⟩ : ByteArray) X (by omega) hX
  rw [hQ] at CP
  have HQ := Lib.hid hQ
  clear CS CU CC CH hb hg hp h7 l1 l2 hS hQ sS sQ hc hq hs hsl
  generalize slashF q = r at *
  have HSZ := Lib.hid (fun (h : List UInt8) (p : Int) => text_size h r p)
  have C6 := Lib.hid CW
  have C7 := Lib.hid CP
  clear CW CP
  generalize hau : authorityF (colonF a) = au at *
  unfold UrlGot
  cases au with
  | none =>
    have CA2 := Lib.hid CA
    have HR := Lib.hid (show parseF (bl s) = none from HE.out)
    clear CA hau HE
    unfold auV at CA2
    go_enter Tryz.func16, Tryz.ntmps16
    go_wp2_with fail
    try simp only [HG.out]
    refine (C1.out _).mono ?_
    rintro e w1 ⟨rfl, b1⟩
    have I1 := Lib.hid (I0.out.kept (Turn.of_below (S := fun _ => False) b1) (fun h => h))
    have B1 := Lib.hid (B0.out.trans (b1.mono B0.out.size))
    clear b1 I0 B0
    go_wp2_with fail
    refine (C2.out _).mono ?_
    rintro e w2 ⟨rfl, b2⟩
    have I2 := Lib.hid (I1.out.kept (Turn.of_below (S := fun _ => False) b2) (fun h => h))
    have B2 := Lib.hid (B1.out.trans (b2.mono B1.out.size))
    clear b2 I1 B1
    go_wp2_with fail
    refine (C3.out _).mono ?_
    rintro e w3 ⟨rfl, rfl⟩
    go_wp2_with fail
    refine (C4.out _).mono ?_
    rintro e w4 ⟨rfl, rfl⟩
    go_wp2_with fail
    refine (CA2.out _ (HP.out.below B2.out)).mono ?_
    rintro e w5 ⟨rfl, b5⟩
    have I5 := Lib.hid (I2.out.kept (Turn.of_below (S := fun _ => False) b5) (fun h => h))
    have B5 := Lib.hid (B2.out.trans (b5.mono B2.out.size))
    clear b5 I2 B2
    go_wp2_with fail
    refine (CL.out _).mono ?_
    rintro e w6 ⟨rfl, b6⟩
    have I6 := Lib.hid (I5.out.kept (Turn.of_below (S := fun _ => False) b6) (fun h => h))
    have B6 := Lib.hid (B5.out.trans (b6.mono B5.out.size))
    clear b6 I5 B5
    have I7 := Lib.hid (I6.out.alloc (.cells #[.string ⟨#[]⟩, .int .i64 0, .string (⟨q.toArray⟩ : ByteArray)] 23))
    have B7 := Lib.hid (B6.out.alloc B6.out.size (.cells #[.string ⟨#[]⟩, .int .i64 0, .string (⟨q.toArray⟩ : ByteArray)] 23))
    go_upto_region 11 with fail
    generalize w6.alloc _ = w7 at *
    have c0 : w7.cell? ⟨g, 0, none⟩ = some (.string ⟨#[]⟩) := I7.out.cell 0
    have f0 : w7.frozen? ⟨g, 0, none⟩ = false := I7.out.free 0
    have c1 : w7.cell? ⟨g, 1, none⟩ = some (.int .i64 0) := I7.out.cell 1
    have f1 : w7.frozen? ⟨g, 1, none⟩ = false := I7.out.free 1
    have c2 : w7.cell? ⟨g, 2, none⟩ = some (.string ⟨#[]⟩) := I7.out.cell 2
    have f2 : w7.frozen? ⟨g, 2, none⟩ = false := I7.out.free 2
    have I9 := Lib.hid (put3_is I7.out (.string ⟨#[]⟩) (.int .i64 0) (.string ⟨#[]⟩))
    have B9 := Lib.hid (put3_below B7.out (Nat.le_of_eq HG.out) (.string ⟨#[]⟩) (.int .i64 0) (.string ⟨#[]⟩))
    go_wp2_with fail
    refine bodyPost_ret (results_cell1 rfl _ _ g _ _ _ _ rfl I9.out Tryz.underlying23 rfl (by kernel_rfl)) rfl ?_
    exact ⟨by rw [HR.out]; rfl, B9.out⟩
  | some x =>
    obtain ⟨h, p⟩ := x
    have a1 := (authority_some hau).1
    have a2 := (authority_some hau).2.1
    have a3 := (authority_some hau).2.2.1
    have hh64 : (⟨h.toArray⟩ : ByteArray).size ≤ 64 := by rw [size_mk]; exact (named_parts a1).1
    have CA2 := Lib.hid CA
    unfold auV at CA2
    have C8 := Lib.hid (fun (X : World) (hX : PowTab X) => C6.out ⟨h.toArray⟩ (p : Int) X hh64 ⟨by omega, by omega⟩ hX)
    rw [bl_mk] at C8
    have hsz := HSZ.out h (p : Int)
    clear CA hau C6 HSZ a1 a2 a3
    by_cases hlen : (textF h (p : Int) r).length ≤ 384
    · have e1 : ¬ (384 : Int) < ((textF h (p : Int) r).length : Int) := by omega
      have CP := Lib.hid (fun (X : World) (hX : PowTab X) => C7.out X (by omega) hX)
      clear C7
      cases hpa : pathF r with
      | true =>
        have HR := Lib.hid (show parseF (bl s) = some (h, p, r) by rw [HE.out]; exact end_some h r p hlen hpa)
        rw [hpa] at CP
        clear HE hpa hlen hsz
        generalize textF h (p : Int) r = T at *
        go_enter Tryz.func16, Tryz.ntmps16
        go_wp2_with fail
        try simp only [HG.out]
        refine (C1.out _).mono ?_
        rintro e w1 ⟨rfl, b1⟩
        have I1 := Lib.hid (I0.out.kept (Turn.of_below (S := fun _ => False) b1) (fun h => h))
        have B1 := Lib.hid (B0.out.trans (b1.mono B0.out.size))
        clear b1 I0 B0
        go_wp2_with fail
        refine (C2.out _).mono ?_
        rintro e w2 ⟨rfl, b2⟩
        have I2 := Lib.hid (I1.out.kept (Turn.of_below (S := fun _ => False) b2) (fun h => h))
        have B2 := Lib.hid (B1.out.trans (b2.mono B1.out.size))
        clear b2 I1 B1
        go_wp2_with fail
        refine (C3.out _).mono ?_
        rintro e w3 ⟨rfl, rfl⟩
        go_wp2_with fail
        refine (C4.out _).mono ?_
        rintro e w4 ⟨rfl, rfl⟩
        go_wp2_with fail
        refine (CA2.out _ (HP.out.below B2.out)).mono ?_
        rintro e w5 ⟨rfl, b5⟩
        have I5 := Lib.hid (I2.out.kept (Turn.of_below (S := fun _ => False) b5) (fun h => h))
        have B5 := Lib.hid (B2.out.trans (b5.mono B2.out.size))
        clear b5 I2 B2
        go_wp2_with fail
        refine (CL.out _).mono ?_
        rintro e w6 ⟨rfl, b6⟩
        have I6 := Lib.hid (I5.out.kept (Turn.of_below (S := fun _ => False) b6) (fun h => h))
        have B6 := Lib.hid (B5.out.trans (b6.mono B5.out.size))
        clear b6 I5 B5
        have i7 := I6.out.alloc (.cells #[.string ⟨h.toArray⟩, .int .i64 (p : Int), .string (⟨q.toArray⟩ : ByteArray)] 23)
        have b7 := B6.out.alloc B6.out.size (.cells #[.string ⟨h.toArray⟩, .int .i64 (p : Int), .string (⟨q.toArray⟩ : ByteArray)] 23)
        have j7 := Is.made w6 23 [.string ⟨h.toArray⟩, .int .i64 (p : Int), .string (⟨q.toArray⟩ : ByteArray)]
        have I7 := Lib.hid i7
        have B7 := Lib.hid b7
        have J7 := Lib.hid j7
        clear i7 b7 j7
        go_upto_region 10 with fail
        generalize w6.alloc _ = w7 at *
        have y0 : w7.cell? ⟨w6.heap.size, 0, none⟩ = some (.string ⟨h.toArray⟩) := J7.out.cell 0
        have y1 : w7.cell? ⟨w6.heap.size, 1, none⟩ = some (.int .i64 (p : Int)) := J7.out.cell 1
        have y2 : w7.cell? ⟨w6.heap.size, 2, none⟩ = some (.string (⟨q.toArray⟩ : ByteArray)) := J7.out.cell 2
        go_wp2_with fail
        refine (C8.out _ (HP.out.below B7.out)).mono ?_
        rintro e w8 ⟨rfl, b8⟩
        have J8 := Lib.hid (J7.out.kept (Turn.of_below (S := fun _ => False) b8) (fun h => h))
        have I8 := Lib.hid (I7.out.kept (Turn.of_below (S := fun _ => False) b8) (fun h => h))
        have B8 := Lib.hid (B7.out.trans (b8.mono B7.out.size))
        clear b8 I7 B7
        go_wp2_with fail
        refine (CP.out _ (HP.out.below B8.out)).mono ?_
        rintro e w9 ⟨rfl, b9⟩
        have J9 := Lib.hid (J8.out.kept (Turn.of_below (S := fun _ => False) b9) (fun h => h))
        have I9 := Lib.hid (I8.out.kept (Turn.of_below (S := fun _ => False) b9) (fun h => h))
        have B9 := Lib.hid (B8.out.trans (b9.mono B8.out.size))
        clear b9 I8 B8
        have x0 : w9.cell? ⟨w6.heap.size, 0, none⟩ = some (.string ⟨h.toArray⟩) := J9.out.cell 0
        have x1 : w9.cell? ⟨w6.heap.size, 1, none⟩ = some (.int .i64 (p : Int)) := J9.out.cell 1
        have x2 : w9.cell? ⟨w6.heap.size, 2, none⟩ = some (.string (⟨q.toArray⟩ : ByteArray)) := J9.out.cell 2
        generalize w6.heap.size = g6 at *
        have c0 : w9.cell? ⟨g, 0, none⟩ = some (.string ⟨#[]⟩) := I9.out.cell 0
        have f0 : w9.frozen? ⟨g, 0, none⟩ = false := I9.out.free 0
        have c1 : w9.cell? ⟨g, 1, none⟩ = some (.int .i64 0) := I9.out.cell 1
        have f1 : w9.frozen? ⟨g, 1, none⟩ = false := I9.out.free 1
        have c2 : w9.cell? ⟨g, 2, none⟩ = some (.string ⟨#[]⟩) := I9.out.cell 2
        have f2 : w9.frozen? ⟨g, 2, none⟩ = false := I9.out.free 2
        have I10 := Lib.hid (put3_is I9.out (.string ⟨h.toArray⟩) (.int .i64 (p : Int)) (.string (⟨q.toArray⟩ : ByteArray)))
        have B10 := Lib.hid (put3_below B9.out (Nat.le_of_eq HG.out) (.string ⟨h.toArray⟩) (.int .i64 (p : Int)) (.string (⟨q.toArray⟩ : ByteArray)))
        go_wp2_with fail
        refine bodyPost_ret (results_cell1 rfl _ _ g _ _ _ _ rfl I10.out Tryz.underlying23 rfl (by kernel_rfl)) rfl ?_
        refine ⟨?_, B10.out⟩
        rw [HR.out]
        simp only [urlT]
        rw [← HQ.out, mk_bl]
        rfl
      | false =>
        have HR := Lib.hid (show parseF (bl s) = none by rw [HE.out]; exact end_path h r p hpa)
        rw [hpa] at CP
        clear HE hpa hlen hsz
        generalize textF h (p : Int) r = T at *
        go_enter Tryz.func16, Tryz.ntmps16
        go_wp2_with fail
        try simp only [HG.out]
        refine (C1.out _).mono ?_
        rintro e w1 ⟨rfl, b1⟩
        have I1 := Lib.hid (I0.out.kept (Turn.of_below (S := fun _ => False) b1) (fun h => h))
        have B1 := Lib.hid (B0.out.trans (b1.mono B0.out.size))
        clear b1 I0 B0
        go_wp2_with fail
        refine (C2.out _).mono ?_
        rintro e w2 ⟨rfl, b2⟩
        have I2 := Lib.hid (I1.out.kept (Turn.of_below (S := fun _ => False) b2) (fun h => h))
        have B2 := Lib.hid (B1.out.trans (b2.mono B1.out.size))
        clear b2 I1 B1
        go_wp2_with fail
        refine (C3.out _).mono ?_
        rintro e w3 ⟨rfl, rfl⟩
        go_wp2_with fail
        refine (C4.out _).mono ?_
        rintro e w4 ⟨rfl, rfl⟩
        go_wp2_with fail
        refine (CA2.out _ (HP.out.below B2.out)).mono ?_
        rintro e w5 ⟨rfl, b5⟩
        have I5 := Lib.hid (I2.out.kept (Turn.of_below (S := fun _ => False) b5) (fun h => h))
        have B5 := Lib.hid (B2.out.trans (b5.mono B2.out.size))
        clear b5 I2 B2
        go_wp2_with fail
        refine (CL.out _).mono ?_
        rintro e w6 ⟨rfl, b6⟩
        have I6 := Lib.hid (I5.out.kept (Turn.of_below (S := fun _ => False) b6) (fun h => h))
        have B6 := Lib.hid (B5.out.trans (b6.mono B5.out.size))
        clear b6 I5 B5
        have i7 := I6.out.alloc (.cells #[.string ⟨h.toArray⟩, .int .i64 (p : Int), .string (⟨q.toArray⟩ : ByteArray)] 23)
        have b7 := B6.out.alloc B6.out.size (.cells #[.string ⟨h.toArray⟩, .int .i64 (p : Int), .string (⟨q.toArray⟩ : ByteArray)] 23)
        have j7 := Is.made w6 23 [.string ⟨h.toArray⟩, .int .i64 (p : Int), .string (⟨q.toArray⟩ : ByteArray)]
        have I7 := Lib.hid i7
        have B7 := Lib.hid b7
        have J7 := Lib.hid j7
        clear i7 b7 j7
        go_upto_region 10 with fail
        generalize w6.alloc _ = w7 at *
        have y0 : w7.cell? ⟨w6.heap.size, 0, none⟩ = some (.string ⟨h.toArray⟩) := J7.out.cell 0
        have y1 : w7.cell? ⟨w6.heap.size, 1, none⟩ = some (.int .i64 (p : Int)) := J7.out.cell 1
        have y2 : w7.cell? ⟨w6.heap.size, 2, none⟩ = some (.string (⟨q.toArray⟩ : ByteArray)) := J7.out.cell 2
        go_wp2_with fail
        refine (C8.out _ (HP.out.below B7.out)).mono ?_
        rintro e w8 ⟨rfl, b8⟩
        have I8 := Lib.hid (I7.out.kept (Turn.of_below (S := fun _ => False) b8) (fun h => h))
        have B8 := Lib.hid (B7.out.trans (b8.mono B7.out.size))
        clear b8 I7 B7
        go_wp2_with fail
        refine (CP.out _ (HP.out.below B8.out)).mono ?_
        rintro e w9 ⟨rfl, b9⟩
        have I9 := Lib.hid (I8.out.kept (Turn.of_below (S := fun _ => False) b9) (fun h => h))
        have B9 := Lib.hid (B8.out.trans (b9.mono B8.out.size))
        clear b9 I8 B8
        have c0 : w9.cell? ⟨g, 0, none⟩ = some (.string ⟨#[]⟩) := I9.out.cell 0
        have f0 : w9.frozen? ⟨g, 0, none⟩ = false := I9.out.free 0
        have c1 : w9.cell? ⟨g, 1, none⟩ = some (.int .i64 0) := I9.out.cell 1
        have f1 : w9.frozen? ⟨g, 1, none⟩ = false := I9.out.free 1
        have c2 : w9.cell? ⟨g, 2, none⟩ = some (.string ⟨#[]⟩) := I9.out.cell 2
        have f2 : w9.frozen? ⟨g, 2, none⟩ = false := I9.out.free 2
        have I10 := Lib.hid (put3_is I9.out (.string ⟨#[]⟩) (.int .i64 0) (.string ⟨#[]⟩))
        have B10 := Lib.hid (put3_below B9.out (Nat.le_of_eq HG.out) (.string ⟨#[]⟩) (.int .i64 0) (.string ⟨#[]⟩))
        go_wp2_with fail
        refine bodyPost_ret (results_cell1 rfl _ _ g _ _ _ _ rfl I10.out Tryz.underlying23 rfl (by kernel_rfl)) rfl ?_
        exact ⟨by rw [HR.out]; rfl, B10.out⟩
    · have e1 : (384 : Int) < ((textF h (p : Int) r).length : Int) := by omega
      have HR := Lib.hid (show parseF (bl s) = none by rw [HE.out]; exact end_long h r p hlen)
      clear HE hlen hsz C7
      generalize textF h (p : Int) r = T at *
      go_enter Tryz.func16, Tryz.ntmps16
      go_wp2_with fail
      try simp only [HG.out]
      refine (C1.out _).mono ?_
      rintro e w1 ⟨rfl, b1⟩
      have I1 := Lib.hid (I0.out.kept (Turn.of_below (S := fun _ => False) b1) (fun h => h))
      have B1 := Lib.hid (B0.out.trans (b1.mono B0.out.size))
      clear b1 I0 B0
      go_wp2_with fail
      refine (C2.out _).mono ?_
      rintro e w2 ⟨rfl, b2⟩
      have I2 := Lib.hid (I1.out.kept (Turn.of_below (S := fun _ => False) b2) (fun h => h))
      have B2 := Lib.hid (B1.out.trans (b2.mono B1.out.size))
      clear b2 I1 B1
      go_wp2_with fail
      refine (C3.out _).mono ?_
      rintro e w3 ⟨rfl, rfl⟩
      go_wp2_with fail
      refine (C4.out _).mono ?_
      rintro e w4 ⟨rfl, rfl⟩
      go_wp2_with fail
      refine (CA2.out _ (HP.out.below B2.out)).mono ?_
      rintro e w5 ⟨rfl, b5⟩
      have I5 := Lib.hid (I2.out.kept (Turn.of_below (S := fun _ => False) b5) (fun h => h))
      have B5 := Lib.hid (B2.out.trans (b5.mono B2.out.size))
      clear b5 I2 B2
      go_wp2_with fail
      refine (CL.out _).mono ?_
      rintro e w6 ⟨rfl, b6⟩
      have I6 := Lib.hid (I5.out.kept (Turn.of_below (S := fun _ => False) b6) (fun h => h))
      have B6 := Lib.hid (B5.out.trans (b6.mono B5.out.size))
      clear b6 I5 B5
      have i7 := I6.out.alloc (.cells #[.string ⟨h.toArray⟩, .int .i64 (p : Int), .string (⟨q.toArray⟩ : ByteArray)] 23)
      have b7 := B6.out.alloc B6.out.size (.cells #[.string ⟨h.toArray⟩, .int .i64 (p : Int), .string (⟨q.toArray⟩ : ByteArray)] 23)
      have j7 := Is.made w6 23 [.string ⟨h.toArray⟩, .int .i64 (p : Int), .string (⟨q.toArray⟩ : ByteArray)]
      have I7 := Lib.hid i7
      have B7 := Lib.hid b7
      have J7 := Lib.hid j7
      clear i7 b7 j7
      go_upto_region 10 with fail
      generalize w6.alloc _ = w7 at *
      have y0 : w7.cell? ⟨w6.heap.size, 0, none⟩ = some (.string ⟨h.toArray⟩) := J7.out.cell 0
      have y1 : w7.cell? ⟨w6.heap.size, 1, none⟩ = some (.int .i64 (p : Int)) := J7.out.cell 1
      have y2 : w7.cell? ⟨w6.heap.size, 2, none⟩ = some (.string (⟨q.toArray⟩ : ByteArray)) := J7.out.cell 2
      go_wp2_with fail
      refine (C8.out _ (HP.out.below B7.out)).mono ?_
      rintro e w8 ⟨rfl, b8⟩
      have I8 := Lib.hid (I7.out.kept (Turn.of_below (S := fun _ => False) b8) (fun h => h))
      have B8 := Lib.hid (B7.out.trans (b8.mono B7.out.size))
      clear b8 I7 B7
      have c0 : w8.cell? ⟨g, 0, none⟩ = some (.string ⟨#[]⟩) := I8.out.cell 0
      have f0 : w8.frozen? ⟨g, 0, none⟩ = false := I8.out.free 0
      have c1 : w8.cell? ⟨g, 1, none⟩ = some (.int .i64 0) := I8.out.cell 1
      have f1 : w8.frozen? ⟨g, 1, none⟩ = false := I8.out.free 1
      have c2 : w8.cell? ⟨g, 2, none⟩ = some (.string ⟨#[]⟩) := I8.out.cell 2
      have f2 : w8.frozen? ⟨g, 2, none⟩ = false := I8.out.free 2
      have I9 := Lib.hid (put3_is I8.out (.string ⟨#[]⟩) (.int .i64 0) (.string ⟨#[]⟩))
      have B9 := Lib.hid (put3_below B8.out (Nat.le_of_eq HG.out) (.string ⟨#[]⟩) (.int .i64 0) (.string ⟨#[]⟩))
      go_wp2_with fail
      refine bodyPost_ret (results_cell1 rfl _ _ g _ _ _ _ rfl I9.out Tryz.underlying23 rfl (by kernel_rfl)) rfl ?_
      exact ⟨by rw [HR.out]; rfl, B9.out⟩

set_option maxHeartbeats 8000000 in
theorem parse_yes_cn (s : ByteArray) (w : World) (hs : s.size ≤ 281474976710000) (hb : (lowF ((bl s).take 7) == httpL) = true) (hc : (cutA ((bl s).drop 7)).1.contains 58 = true) (hq : decide ((cutA ((bl s).drop 7)).2.take 1 = [47]) = false) (hp : PowTab w) : Calls Tryz.prog 16 #[.string s] w (UrlGot (urlT (parseF (bl s))) w) := by
  obtain ⟨g, hg⟩ : ∃ g, w.heap.size = g := ⟨_, rfl⟩
  have I0 := Lib.hid (show Is (w.alloc (.cells #[.string ⟨#[]⟩, .int .i64 0, .string ⟨#[]⟩] 23)) g 23 [.string ⟨#[]⟩, .int .i64 0, .string ⟨#[]⟩] by have := Is.made w 23 [.string ⟨#[]⟩, .int .i64 0, .string ⟨#[]⟩]; rwa [hg] at this)
  have B0 := Lib.hid (show Below w.heap.size w (w.alloc (.cells #[.string ⟨#[]⟩, .int .i64 0, .string ⟨#[]⟩] 23)) from (Below.refl _ _).alloc (Nat.le_refl _) _)
  have HP := Lib.hid hp
  have HG := Lib.hid hg
  have h7 := seven hb
  rw [bl_length] at h7
  have HE := Lib.hid (parse_in (bl s) hb)
  have m1 : ¬ (s.size : Int) < 7 := by omega
  have m2 : min (s.size : Int) 7 = 7 := by omega
  have m4 : (7 : Int) ≤ (s.size : Int) := by omega
  have CS := fun X : World => ty_same (s.extract 0 7) httpS X
  rw [extract_bl, piece_front, low_http, hb] at CS
  have C1 := Lib.hid CS
  have CU := fun X : World => ucut_any (s.extract 7 s.size) X (by have := extract_size s 7 s.size; omega)
  unfold CutA at CU
  rw [extract_bl, piece_back] at CU
  obtain ⟨l1, l2⟩ := cutA_len ((bl s).drop 7)
  rw [List.length_drop, bl_length] at l1 l2
  generalize (cutA ((bl s).drop 7)).1 = a at *
  generalize (cutA ((bl s).drop 7)).2 = q at *
  have C2 := Lib.hid CU
  have CC := fun X : World => contains_any ⟨a.toArray⟩ 58 X
  rw [bl_mk, hc] at CC
  have C3 := Lib.hid CC
  have CH := fun X : World => hasprefix_any ⟨q.toArray⟩ ⟨#[47]⟩ X
  rw [bl_mk, show (⟨#[47]⟩ : ByteArray).size = 1 from rfl, show bl (⟨#[47]⟩ : ByteArray) = [47] from rfl, hq] at CH
  have C4 := Lib.hid CH
  have z1 : ¬ 9223372036854775807 < a.length + 3 := by omega
  have z2 : ¬ 9223372036854775807 < 1 + q.length := by omega
  have hS : bl (⟨a.toArray⟩ : ByteArray) = colonF a := by
    unfold colonF
    rw [hc]
    rw [if_pos rfl, bl_mk]
  have hQ : bl ((⟨#[47]⟩ : ByteArray) ++ (⟨q.toArray⟩ : ByteArray)) = slashF q := by
    unfold slashF
    rw [if_neg (of_decide_eq_false hq), mk_append, bl_mk]; rfl
  have sS : (⟨a.toArray⟩ : ByteArray).size ≤ 281474976710656 := by
    rw [← bl_length, hS]; unfold colonF; rw [hc]; rw [if_pos rfl]; omega
  have sQ : ((⟨#[47]⟩ : ByteArray) ++ (⟨q.toArray⟩ : ByteArray)).size ≤ 281474976710656 := by
    rw [← bl_length, hQ]; unfold slashF; rw [if_neg (of_decide_eq_false hq)]; simp; omega
  have CA := fun (X : World) (hX : PowTab X) => authority_any (⟨a.toArray⟩ : ByteArray) X (by omega) hX
  unfold AuGot at CA
  rw [hS] at CA
  have CL := Lib.hid (fun X : World => clone_any ((⟨#[47]⟩ : ByteArray) ++ (⟨q.toArray⟩ : ByteArray)) X sQ)
  have hsl : (slashF q).length = ((⟨#[47]⟩ : ByteArray) ++ (⟨q.toArray⟩ : ByteArray)).size := by rw [← bl_length, hQ]
  have CW := fun (h : ByteArray) (p : Int) (X : World) (hh : h.size ≤ 64) (hpp : I64 p) (hX : PowTab X) => write_any h ((⟨#[47]⟩ : ByteArray) ++ (⟨q.toArray⟩ : ByteArray)) p X (by omega) (by omega) hpp hX
  rw [hQ] at CW
  have CP := fun (X : World) (hz : (slashF q).length ≤ 384) (hX : PowTab X) => path_any ((⟨#[47]⟩ : ByteArray) ++ (⟨q.toArray⟩ : ByteArray)) X (by omega) hX
  rw [hQ] at CP
  have HQ := Lib.hid hQ
  clear CS CU CC CH hb hg hp h7 l1 l2 hS hQ sS sQ hc hq hs hsl
  generalize slashF q = r at *
  have HSZ := Lib.hid (fun (h : List UInt8) (p : Int) => text_size h r p)
  have C6 := Lib.hid CW
  have C7 := Lib.hid CP
  clear CW CP
  generalize hau : authorityF (colonF a) = au at *
  unfold UrlGot
  cases au with
  | none =>
    have CA2 := Lib.hid CA
    have HR := Lib.hid (show parseF (bl s) = none from HE.out)
    clear CA hau HE
    unfold auV at CA2
    go_enter Tryz.func16, Tryz.ntmps16
    go_wp2_with fail
    try simp only [HG.out]
    refine (C1.out _).mono ?_
    rintro e w1 ⟨rfl, b1⟩
    have I1 := Lib.hid (I0.out.kept (Turn.of_below (S := fun _ => False) b1) (fun h => h))
    have B1 := Lib.hid (B0.out.trans (b1.mono B0.out.size))
    clear b1 I0 B0
    go_wp2_with fail
    refine (C2.out _).mono ?_
    rintro e w2 ⟨rfl, b2⟩
    have I2 := Lib.hid (I1.out.kept (Turn.of_below (S := fun _ => False) b2) (fun h => h))
    have B2 := Lib.hid (B1.out.trans (b2.mono B1.out.size))
    clear b2 I1 B1
    go_wp2_with fail
    refine (C3.out _).mono ?_
    rintro e w3 ⟨rfl, rfl⟩
    go_wp2_with fail
    refine (C4.out _).mono ?_
    rintro e w4 ⟨rfl, rfl⟩
    go_wp2_with fail
    refine (CA2.out _ (HP.out.below B2.out)).mono ?_
    rintro e w5 ⟨rfl, b5⟩
    have I5 := Lib.hid (I2.out.kept (Turn.of_below (S := fun _ => False) b5) (fun h => h))
    have B5 := Lib.hid (B2.out.trans (b5.mono B2.out.size))
    clear b5 I2 B2
    go_wp2_with fail
    refine (CL.out _).mono ?_
    rintro e w6 ⟨rfl, b6⟩
    have I6 := Lib.hid (I5.out.kept (Turn.of_below (S := fun _ => False) b6) (fun h => h))
    have B6 := Lib.hid (B5.out.trans (b6.mono B5.out.size))
    clear b6 I5 B5
    have I7 := Lib.hid (I6.out.alloc (.cells #[.string ⟨#[]⟩, .int .i64 0, .string ((⟨#[47]⟩ : ByteArray) ++ (⟨q.toArray⟩ : ByteArray))] 23))
    have B7 := Lib.hid (B6.out.alloc B6.out.size (.cells #[.string ⟨#[]⟩, .int .i64 0, .string ((⟨#[47]⟩ : ByteArray) ++ (⟨q.toArray⟩ : ByteArray))] 23))
    go_upto_region 11 with fail
    generalize w6.alloc _ = w7 at *
    have c0 : w7.cell? ⟨g, 0, none⟩ = some (.string ⟨#[]⟩) := I7.out.cell 0
    have f0 : w7.frozen? ⟨g, 0, none⟩ = false := I7.out.free 0
    have c1 : w7.cell? ⟨g, 1, none⟩ = some (.int .i64 0) := I7.out.cell 1
    have f1 : w7.frozen? ⟨g, 1, none⟩ = false := I7.out.free 1
    have c2 : w7.cell? ⟨g, 2, none⟩ = some (.string ⟨#[]⟩) := I7.out.cell 2
    have f2 : w7.frozen? ⟨g, 2, none⟩ = false := I7.out.free 2
    have I9 := Lib.hid (put3_is I7.out (.string ⟨#[]⟩) (.int .i64 0) (.string ⟨#[]⟩))
    have B9 := Lib.hid (put3_below B7.out (Nat.le_of_eq HG.out) (.string ⟨#[]⟩) (.int .i64 0) (.string ⟨#[]⟩))
    go_wp2_with fail
    refine bodyPost_ret (results_cell1 rfl _ _ g _ _ _ _ rfl I9.out Tryz.underlying23 rfl (by kernel_rfl)) rfl ?_
    exact ⟨by rw [HR.out]; rfl, B9.out⟩
  | some x =>
    obtain ⟨h, p⟩ := x
    have a1 := (authority_some hau).1
    have a2 := (authority_some hau).2.1
    have a3 := (authority_some hau).2.2.1
    have hh64 : (⟨h.toArray⟩ : ByteArray).size ≤ 64 := by rw [size_mk]; exact (named_parts a1).1
    have CA2 := Lib.hid CA
    unfold auV at CA2
    have C8 := Lib.hid (fun (X : World) (hX : PowTab X) => C6.out ⟨h.toArray⟩ (p : Int) X hh64 ⟨by omega, by omega⟩ hX)
    rw [bl_mk] at C8
    have hsz := HSZ.out h (p : Int)
    clear CA hau C6 HSZ a1 a2 a3
    by_cases hlen : (textF h (p : Int) r).length ≤ 384
    · have e1 : ¬ (384 : Int) < ((textF h (p : Int) r).length : Int) := by omega
      have CP := Lib.hid (fun (X : World) (hX : PowTab X) => C7.out X (by omega) hX)
      clear C7
      cases hpa : pathF r with
      | true =>
        have HR := Lib.hid (show parseF (bl s) = some (h, p, r) by rw [HE.out]; exact end_some h r p hlen hpa)
        rw [hpa] at CP
        clear HE hpa hlen hsz
        generalize textF h (p : Int) r = T at *
        go_enter Tryz.func16, Tryz.ntmps16
        go_wp2_with fail
        try simp only [HG.out]
        refine (C1.out _).mono ?_
        rintro e w1 ⟨rfl, b1⟩
        have I1 := Lib.hid (I0.out.kept (Turn.of_below (S := fun _ => False) b1) (fun h => h))
        have B1 := Lib.hid (B0.out.trans (b1.mono B0.out.size))
        clear b1 I0 B0
        go_wp2_with fail
        refine (C2.out _).mono ?_
        rintro e w2 ⟨rfl, b2⟩
        have I2 := Lib.hid (I1.out.kept (Turn.of_below (S := fun _ => False) b2) (fun h => h))
        have B2 := Lib.hid (B1.out.trans (b2.mono B1.out.size))
        clear b2 I1 B1
        go_wp2_with fail
        refine (C3.out _).mono ?_
        rintro e w3 ⟨rfl, rfl⟩
        go_wp2_with fail
        refine (C4.out _).mono ?_
        rintro e w4 ⟨rfl, rfl⟩
        go_wp2_with fail
        refine (CA2.out _ (HP.out.below B2.out)).mono ?_
        rintro e w5 ⟨rfl, b5⟩
        have I5 := Lib.hid (I2.out.kept (Turn.of_below (S := fun _ => False) b5) (fun h => h))
        have B5 := Lib.hid (B2.out.trans (b5.mono B2.out.size))
        clear b5 I2 B2
        go_wp2_with fail
        refine (CL.out _).mono ?_
        rintro e w6 ⟨rfl, b6⟩
        have I6 := Lib.hid (I5.out.kept (Turn.of_below (S := fun _ => False) b6) (fun h => h))
        have B6 := Lib.hid (B5.out.trans (b6.mono B5.out.size))
        clear b6 I5 B5
        have i7 := I6.out.alloc (.cells #[.string ⟨h.toArray⟩, .int .i64 (p : Int), .string ((⟨#[47]⟩ : ByteArray) ++ (⟨q.toArray⟩ : ByteArray))] 23)
        have b7 := B6.out.alloc B6.out.size (.cells #[.string ⟨h.toArray⟩, .int .i64 (p : Int), .string ((⟨#[47]⟩ : ByteArray) ++ (⟨q.toArray⟩ : ByteArray))] 23)
        have j7 := Is.made w6 23 [.string ⟨h.toArray⟩, .int .i64 (p : Int), .string ((⟨#[47]⟩ : ByteArray) ++ (⟨q.toArray⟩ : ByteArray))]
        have I7 := Lib.hid i7
        have B7 := Lib.hid b7
        have J7 := Lib.hid j7
        clear i7 b7 j7
        go_upto_region 10 with fail
        generalize w6.alloc _ = w7 at *
        have y0 : w7.cell? ⟨w6.heap.size, 0, none⟩ = some (.string ⟨h.toArray⟩) := J7.out.cell 0
        have y1 : w7.cell? ⟨w6.heap.size, 1, none⟩ = some (.int .i64 (p : Int)) := J7.out.cell 1
        have y2 : w7.cell? ⟨w6.heap.size, 2, none⟩ = some (.string ((⟨#[47]⟩ : ByteArray) ++ (⟨q.toArray⟩ : ByteArray))) := J7.out.cell 2
        go_wp2_with fail
        refine (C8.out _ (HP.out.below B7.out)).mono ?_
        rintro e w8 ⟨rfl, b8⟩
        have J8 := Lib.hid (J7.out.kept (Turn.of_below (S := fun _ => False) b8) (fun h => h))
        have I8 := Lib.hid (I7.out.kept (Turn.of_below (S := fun _ => False) b8) (fun h => h))
        have B8 := Lib.hid (B7.out.trans (b8.mono B7.out.size))
        clear b8 I7 B7
        go_wp2_with fail
        refine (CP.out _ (HP.out.below B8.out)).mono ?_
        rintro e w9 ⟨rfl, b9⟩
        have J9 := Lib.hid (J8.out.kept (Turn.of_below (S := fun _ => False) b9) (fun h => h))
        have I9 := Lib.hid (I8.out.kept (Turn.of_below (S := fun _ => False) b9) (fun h => h))
        have B9 := Lib.hid (B8.out.trans (b9.mono B8.out.size))
        clear b9 I8 B8
        have x0 : w9.cell? ⟨w6.heap.size, 0, none⟩ = some (.string ⟨h.toArray⟩) := J9.out.cell 0
        have x1 : w9.cell? ⟨w6.heap.size, 1, none⟩ = some (.int .i64 (p : Int)) := J9.out.cell 1
        have x2 : w9.cell? ⟨w6.heap.size, 2, none⟩ = some (.string ((⟨#[47]⟩ : ByteArray) ++ (⟨q.toArray⟩ : ByteArray))) := J9.out.cell 2
        generalize w6.heap.size = g6 at *
        have c0 : w9.cell? ⟨g, 0, none⟩ = some (.string ⟨#[]⟩) := I9.out.cell 0
        have f0 : w9.frozen? ⟨g, 0, none⟩ = false := I9.out.free 0
        have c1 : w9.cell? ⟨g, 1, none⟩ = some (.int .i64 0) := I9.out.cell 1
        have f1 : w9.frozen? ⟨g, 1, none⟩ = false := I9.out.free 1
        have c2 : w9.cell? ⟨g, 2, none⟩ = some (.string ⟨#[]⟩) := I9.out.cell 2
        have f2 : w9.frozen? ⟨g, 2, none⟩ = false := I9.out.free 2
        have I10 := Lib.hid (put3_is I9.out (.string ⟨h.toArray⟩) (.int .i64 (p : Int)) (.string ((⟨#[47]⟩ : ByteArray) ++ (⟨q.toArray⟩ : ByteArray))))
        have B10 := Lib.hid (put3_below B9.out (Nat.le_of_eq HG.out) (.string ⟨h.toArray⟩) (.int .i64 (p : Int)) (.string ((⟨#[47]⟩ : ByteArray) ++ (⟨q.toArray⟩ : ByteArray))))
        go_wp2_with fail
        refine bodyPost_ret (results_cell1 rfl _ _ g _ _ _ _ rfl I10.out Tryz.underlying23 rfl (by kernel_rfl)) rfl ?_
        refine ⟨?_, B10.out⟩
        rw [HR.out]
        simp only [urlT]
        rw [← HQ.out, mk_bl]
        rfl
      | false =>
        have HR := Lib.hid (show parseF (bl s) = none by rw [HE.out]; exact end_path h r p hpa)
        rw [hpa] at CP
        clear HE hpa hlen hsz
        generalize textF h (p : Int) r = T at *
        go_enter Tryz.func16, Tryz.ntmps16
        go_wp2_with fail
        try simp only [HG.out]
        refine (C1.out _).mono ?_
        rintro e w1 ⟨rfl, b1⟩
        have I1 := Lib.hid (I0.out.kept (Turn.of_below (S := fun _ => False) b1) (fun h => h))
        have B1 := Lib.hid (B0.out.trans (b1.mono B0.out.size))
        clear b1 I0 B0
        go_wp2_with fail
        refine (C2.out _).mono ?_
        rintro e w2 ⟨rfl, b2⟩
        have I2 := Lib.hid (I1.out.kept (Turn.of_below (S := fun _ => False) b2) (fun h => h))
        have B2 := Lib.hid (B1.out.trans (b2.mono B1.out.size))
        clear b2 I1 B1
        go_wp2_with fail
        refine (C3.out _).mono ?_
        rintro e w3 ⟨rfl, rfl⟩
        go_wp2_with fail
        refine (C4.out _).mono ?_
        rintro e w4 ⟨rfl, rfl⟩
        go_wp2_with fail
        refine (CA2.out _ (HP.out.below B2.out)).mono ?_
        rintro e w5 ⟨rfl, b5⟩
        have I5 := Lib.hid (I2.out.kept (Turn.of_below (S := fun _ => False) b5) (fun h => h))
        have B5 := Lib.hid (B2.out.trans (b5.mono B2.out.size))
        clear b5 I2 B2
        go_wp2_with fail
        refine (CL.out _).mono ?_
        rintro e w6 ⟨rfl, b6⟩
        have I6 := Lib.hid (I5.out.kept (Turn.of_below (S := fun _ => False) b6) (fun h => h))
        have B6 := Lib.hid (B5.out.trans (b6.mono B5.out.size))
        clear b6 I5 B5
        have i7 := I6.out.alloc (.cells #[.string ⟨h.toArray⟩, .int .i64 (p : Int), .string ((⟨#[47]⟩ : ByteArray) ++ (⟨q.toArray⟩ : ByteArray))] 23)
        have b7 := B6.out.alloc B6.out.size (.cells #[.string ⟨h.toArray⟩, .int .i64 (p : Int), .string ((⟨#[47]⟩ : ByteArray) ++ (⟨q.toArray⟩ : ByteArray))] 23)
        have j7 := Is.made w6 23 [.string ⟨h.toArray⟩, .int .i64 (p : Int), .string ((⟨#[47]⟩ : ByteArray) ++ (⟨q.toArray⟩ : ByteArray))]
        have I7 := Lib.hid i7
        have B7 := Lib.hid b7
        have J7 := Lib.hid j7
        clear i7 b7 j7
        go_upto_region 10 with fail
        generalize w6.alloc _ = w7 at *
        have y0 : w7.cell? ⟨w6.heap.size, 0, none⟩ = some (.string ⟨h.toArray⟩) := J7.out.cell 0
        have y1 : w7.cell? ⟨w6.heap.size, 1, none⟩ = some (.int .i64 (p : Int)) := J7.out.cell 1
        have y2 : w7.cell? ⟨w6.heap.size, 2, none⟩ = some (.string ((⟨#[47]⟩ : ByteArray) ++ (⟨q.toArray⟩ : ByteArray))) := J7.out.cell 2
        go_wp2_with fail
        refine (C8.out _ (HP.out.below B7.out)).mono ?_
        rintro e w8 ⟨rfl, b8⟩
        have I8 := Lib.hid (I7.out.kept (Turn.of_below (S := fun _ => False) b8) (fun h => h))
        have B8 := Lib.hid (B7.out.trans (b8.mono B7.out.size))
        clear b8 I7 B7
        go_wp2_with fail
        refine (CP.out _ (HP.out.below B8.out)).mono ?_
        rintro e w9 ⟨rfl, b9⟩
        have I9 := Lib.hid (I8.out.kept (Turn.of_below (S := fun _ => False) b9) (fun h => h))
        have B9 := Lib.hid (B8.out.trans (b9.mono B8.out.size))
        clear b9 I8 B8
        have c0 : w9.cell? ⟨g, 0, none⟩ = some (.string ⟨#[]⟩) := I9.out.cell 0
        have f0 : w9.frozen? ⟨g, 0, none⟩ = false := I9.out.free 0
        have c1 : w9.cell? ⟨g, 1, none⟩ = some (.int .i64 0) := I9.out.cell 1
        have f1 : w9.frozen? ⟨g, 1, none⟩ = false := I9.out.free 1
        have c2 : w9.cell? ⟨g, 2, none⟩ = some (.string ⟨#[]⟩) := I9.out.cell 2
        have f2 : w9.frozen? ⟨g, 2, none⟩ = false := I9.out.free 2
        have I10 := Lib.hid (put3_is I9.out (.string ⟨#[]⟩) (.int .i64 0) (.string ⟨#[]⟩))
        have B10 := Lib.hid (put3_below B9.out (Nat.le_of_eq HG.out) (.string ⟨#[]⟩) (.int .i64 0) (.string ⟨#[]⟩))
        go_wp2_with fail
        refine bodyPost_ret (results_cell1 rfl _ _ g _ _ _ _ rfl I10.out Tryz.underlying23 rfl (by kernel_rfl)) rfl ?_
        exact ⟨by rw [HR.out]; rfl, B10.out⟩
    · have e1 : (384 : Int) < ((textF h (p : Int) r).length : Int) := by omega
      have HR := Lib.hid (show parseF (bl s) = none by rw [HE.out]; exact end_long h r p hlen)
      clear HE hlen hsz C7
      generalize textF h (p : Int) r = T at *
      go_enter Tryz.func16, Tryz.ntmps16
      go_wp2_with fail
      try simp only [HG.out]
      refine (C1.out _).mono ?_
      rintro e w1 ⟨rfl, b1⟩
      have I1 := Lib.hid (I0.out.kept (Turn.of_below (S := fun _ => False) b1) (fun h => h))
      have B1 := Lib.hid (B0.out.trans (b1.mono B0.out.size))
      clear b1 I0 B0
      go_wp2_with fail
      refine (C2.out _).mono ?_
      rintro e w2 ⟨rfl, b2⟩
      have I2 := Lib.hid (I1.out.kept (Turn.of_below (S := fun _ => False) b2) (fun h => h))
      have B2 := Lib.hid (B1.out.trans (b2.mono B1.out.size))
      clear b2 I1 B1
      go_wp2_with fail
      refine (C3.out _).mono ?_
      rintro e w3 ⟨rfl, rfl⟩
      go_wp2_with fail
      refine (C4.out _).mono ?_
      rintro e w4 ⟨rfl, rfl⟩
      go_wp2_with fail
      refine (CA2.out _ (HP.out.below B2.out)).mono ?_
      rintro e w5 ⟨rfl, b5⟩
      have I5 := Lib.hid (I2.out.kept (Turn.of_below (S := fun _ => False) b5) (fun h => h))
      have B5 := Lib.hid (B2.out.trans (b5.mono B2.out.size))
      clear b5 I2 B2
      go_wp2_with fail
      refine (CL.out _).mono ?_
      rintro e w6 ⟨rfl, b6⟩
      have I6 := Lib.hid (I5.out.kept (Turn.of_below (S := fun _ => False) b6) (fun h => h))
      have B6 := Lib.hid (B5.out.trans (b6.mono B5.out.size))
      clear b6 I5 B5
      have i7 := I6.out.alloc (.cells #[.string ⟨h.toArray⟩, .int .i64 (p : Int), .string ((⟨#[47]⟩ : ByteArray) ++ (⟨q.toArray⟩ : ByteArray))] 23)
      have b7 := B6.out.alloc B6.out.size (.cells #[.string ⟨h.toArray⟩, .int .i64 (p : Int), .string ((⟨#[47]⟩ : ByteArray) ++ (⟨q.toArray⟩ : ByteArray))] 23)
      have j7 := Is.made w6 23 [.string ⟨h.toArray⟩, .int .i64 (p : Int), .string ((⟨#[47]⟩ : ByteArray) ++ (⟨q.toArray⟩ : ByteArray))]
      have I7 := Lib.hid i7
      have B7 := Lib.hid b7
      have J7 := Lib.hid j7
      clear i7 b7 j7
      go_upto_region 10 with fail
      generalize w6.alloc _ = w7 at *
      have y0 : w7.cell? ⟨w6.heap.size, 0, none⟩ = some (.string ⟨h.toArray⟩) := J7.out.cell 0
      have y1 : w7.cell? ⟨w6.heap.size, 1, none⟩ = some (.int .i64 (p : Int)) := J7.out.cell 1
      have y2 : w7.cell? ⟨w6.heap.size, 2, none⟩ = some (.string ((⟨#[47]⟩ : ByteArray) ++ (⟨q.toArray⟩ : ByteArray))) := J7.out.cell 2
      go_wp2_with fail
      refine (C8.out _ (HP.out.below B7.out)).mono ?_
      rintro e w8 ⟨rfl, b8⟩
      have I8 := Lib.hid (I7.out.kept (Turn.of_below (S := fun _ => False) b8) (fun h => h))
      have B8 := Lib.hid (B7.out.trans (b8.mono B7.out.size))
      clear b8 I7 B7
      have c0 : w8.cell? ⟨g, 0, none⟩ = some (.string ⟨#[]⟩) := I8.out.cell 0
      have f0 : w8.frozen? ⟨g, 0, none⟩ = false := I8.out.free 0
      have c1 : w8.cell? ⟨g, 1, none⟩ = some (.int .i64 0) := I8.out.cell 1
      have f1 : w8.frozen? ⟨g, 1, none⟩ = false := I8.out.free 1
      have c2 : w8.cell? ⟨g, 2, none⟩ = some (.string ⟨#[]⟩) := I8.out.cell 2
      have f2 : w8.frozen? ⟨g, 2, none⟩ = false := I8.out.free 2
      have I9 := Lib.hid (put3_is I8.out (.string ⟨#[]⟩) (.int .i64 0) (.string ⟨#[]⟩))
      have B9 := Lib.hid (put3_below B8.out (Nat.le_of_eq HG.out) (.string ⟨#[]⟩) (.int .i64 0) (.string ⟨#[]⟩))
      go_wp2_with fail
      refine bodyPost_ret (results_cell1 rfl _ _ g _ _ _ _ rfl I9.out Tryz.underlying23 rfl (by kernel_rfl)) rfl ?_
      exact ⟨by rw [HR.out]; rfl, B9.out⟩

set_option maxHeartbeats 8000000 in
theorem parse_yes_nn (s : ByteArray) (w : World) (hs : s.size ≤ 281474976710000) (hb : (lowF ((bl s).take 7) == httpL) = true) (hc : (cutA ((bl s).drop 7)).1.contains 58 = false) (hq : decide ((cutA ((bl s).drop 7)).2.take 1 = [47]) = false) (hp : PowTab w) : Calls Tryz.prog 16 #[.string s] w (UrlGot (urlT (parseF (bl s))) w) := by
  obtain ⟨g, hg⟩ : ∃ g, w.heap.size = g := ⟨_, rfl⟩
  have I0 := Lib.hid (show Is (w.alloc (.cells #[.string ⟨#[]⟩, .int .i64 0, .string ⟨#[]⟩] 23)) g 23 [.string ⟨#[]⟩, .int .i64 0, .string ⟨#[]⟩] by have := Is.made w 23 [.string ⟨#[]⟩, .int .i64 0, .string ⟨#[]⟩]; rwa [hg] at this)
  have B0 := Lib.hid (show Below w.heap.size w (w.alloc (.cells #[.string ⟨#[]⟩, .int .i64 0, .string ⟨#[]⟩] 23)) from (Below.refl _ _).alloc (Nat.le_refl _) _)
  have HP := Lib.hid hp
  have HG := Lib.hid hg
  have h7 := seven hb
  rw [bl_length] at h7
  have HE := Lib.hid (parse_in (bl s) hb)
  have m1 : ¬ (s.size : Int) < 7 := by omega
  have m2 : min (s.size : Int) 7 = 7 := by omega
  have m4 : (7 : Int) ≤ (s.size : Int) := by omega
  have CS := fun X : World => ty_same (s.extract 0 7) httpS X
  rw [extract_bl, piece_front, low_http, hb] at CS
  have C1 := Lib.hid CS
  have CU := fun X : World => ucut_any (s.extract 7 s.size) X (by have := extract_size s 7 s.size; omega)
  unfold CutA at CU
  rw [extract_bl, piece_back] at CU
  obtain ⟨l1, l2⟩ := cutA_len ((bl s).drop 7)
  rw [List.length_drop, bl_length] at l1 l2
  generalize (cutA ((bl s).drop 7)).1 = a at *
  generalize (cutA ((bl s).drop 7)).2 = q at *
  have C2 := Lib.hid CU
  have CC := fun X : World => contains_any ⟨a.toArray⟩ 58 X
  rw [bl_mk, hc] at CC
  have C3 := Lib.hid CC
  have CH := fun X : World => hasprefix_any ⟨q.toArray⟩ ⟨#[47]⟩ X
  rw [bl_mk, show (⟨#[47]⟩ : ByteArray).size = 1 from rfl, show bl (⟨#[47]⟩ : ByteArray) = [47] from rfl, hq] at CH
  have C4 := Lib.hid CH
  have z1 : ¬ 9223372036854775807 < a.length + 3 := by omega
  have z2 : ¬ 9223372036854775807 < 1 + q.length := by omega
  have hS : bl ((⟨a.toArray⟩ : ByteArray) ++ (⟨#[58, 56, 48]⟩ : ByteArray)) = colonF a := by
    unfold colonF
    rw [hc]
    rw [if_neg Bool.false_ne_true, mk_append, bl_mk]
  have hQ : bl ((⟨#[47]⟩ : ByteArray) ++ (⟨q.toArray⟩ : ByteArray)) = slashF q := by
    unfold slashF
    rw [if_neg (of_decide_eq_false hq), mk_append, bl_mk]; rfl
  have sS : ((⟨a.toArray⟩ : ByteArray) ++ (⟨#[58, 56, 48]⟩ : ByteArray)).size ≤ 281474976710656 := by
    rw [← bl_length, hS]; unfold colonF; rw [hc]; rw [if_neg Bool.false_ne_true, List.length_append]; simp; omega
  have sQ : ((⟨#[47]⟩ : ByteArray) ++ (⟨q.toArray⟩ : ByteArray)).size ≤ 281474976710656 := by
    rw [← bl_length, hQ]; unfold slashF; rw [if_neg (of_decide_eq_false hq)]; simp; omega
  have CA := fun (X : World) (hX : PowTab X) => authority_any ((⟨a.toArray⟩ : ByteArray) ++ (⟨#[58, 56, 48]⟩ : ByteArray)) X (by omega) hX
  unfold AuGot at CA
  rw [hS] at CA
  have CL := Lib.hid (fun X : World => clone_any ((⟨#[47]⟩ : ByteArray) ++ (⟨q.toArray⟩ : ByteArray)) X sQ)
  have hsl : (slashF q).length = ((⟨#[47]⟩ : ByteArray) ++ (⟨q.toArray⟩ : ByteArray)).size := by rw [← bl_length, hQ]
  have CW := fun (h : ByteArray) (p : Int) (X : World) (hh : h.size ≤ 64) (hpp : I64 p) (hX : PowTab X) => write_any h ((⟨#[47]⟩ : ByteArray) ++ (⟨q.toArray⟩ : ByteArray)) p X (by omega) (by omega) hpp hX
  rw [hQ] at CW
  have CP := fun (X : World) (hz : (slashF q).length ≤ 384) (hX : PowTab X) => path_any ((⟨#[47]⟩ : ByteArray) ++ (⟨q.toArray⟩ : ByteArray)) X (by omega) hX
  rw [hQ] at CP
  have HQ := Lib.hid hQ
  clear CS CU CC CH hb hg hp h7 l1 l2 hS hQ sS sQ hc hq hs hsl
  generalize slashF q = r at *
  have HSZ := Lib.hid (fun (h : List UInt8) (p : Int) => text_size h r p)
  have C6 := Lib.hid CW
  have C7 := Lib.hid CP
  clear CW CP
  generalize hau : authorityF (colonF a) = au at *
  unfold UrlGot
  cases au with
  | none =>
    have CA2 := Lib.hid CA
    have HR := Lib.hid (show parseF (bl s) = none from HE.out)
    clear CA hau HE
    unfold auV at CA2
    go_enter Tryz.func16, Tryz.ntmps16
    go_wp2_with fail
    try simp only [HG.out]
    refine (C1.out _).mono ?_
    rintro e w1 ⟨rfl, b1⟩
    have I1 := Lib.hid (I0.out.kept (Turn.of_below (S := fun _ => False) b1) (fun h => h))
    have B1 := Lib.hid (B0.out.trans (b1.mono B0.out.size))
    clear b1 I0 B0
    go_wp2_with fail
    refine (C2.out _).mono ?_
    rintro e w2 ⟨rfl, b2⟩
    have I2 := Lib.hid (I1.out.kept (Turn.of_below (S := fun _ => False) b2) (fun h => h))
    have B2 := Lib.hid (B1.out.trans (b2.mono B1.out.size))
    clear b2 I1 B1
    go_wp2_with fail
    refine (C3.out _).mono ?_
    rintro e w3 ⟨rfl, rfl⟩
    go_wp2_with fail
    refine (C4.out _).mono ?_
    rintro e w4 ⟨rfl, rfl⟩
    go_wp2_with fail
    refine (CA2.out _ (HP.out.below B2.out)).mono ?_
    rintro e w5 ⟨rfl, b5⟩
    have I5 := Lib.hid (I2.out.kept (Turn.of_below (S := fun _ => False) b5) (fun h => h))
    have B5 := Lib.hid (B2.out.trans (b5.mono B2.out.size))
    clear b5 I2 B2
    go_wp2_with fail
    refine (CL.out _).mono ?_
    rintro e w6 ⟨rfl, b6⟩
    have I6 := Lib.hid (I5.out.kept (Turn.of_below (S := fun _ => False) b6) (fun h => h))
    have B6 := Lib.hid (B5.out.trans (b6.mono B5.out.size))
    clear b6 I5 B5
    have I7 := Lib.hid (I6.out.alloc (.cells #[.string ⟨#[]⟩, .int .i64 0, .string ((⟨#[47]⟩ : ByteArray) ++ (⟨q.toArray⟩ : ByteArray))] 23))
    have B7 := Lib.hid (B6.out.alloc B6.out.size (.cells #[.string ⟨#[]⟩, .int .i64 0, .string ((⟨#[47]⟩ : ByteArray) ++ (⟨q.toArray⟩ : ByteArray))] 23))
    go_upto_region 11 with fail
    generalize w6.alloc _ = w7 at *
    have c0 : w7.cell? ⟨g, 0, none⟩ = some (.string ⟨#[]⟩) := I7.out.cell 0
    have f0 : w7.frozen? ⟨g, 0, none⟩ = false := I7.out.free 0
    have c1 : w7.cell? ⟨g, 1, none⟩ = some (.int .i64 0) := I7.out.cell 1
    have f1 : w7.frozen? ⟨g, 1, none⟩ = false := I7.out.free 1
    have c2 : w7.cell? ⟨g, 2, none⟩ = some (.string ⟨#[]⟩) := I7.out.cell 2
    have f2 : w7.frozen? ⟨g, 2, none⟩ = false := I7.out.free 2
    have I9 := Lib.hid (put3_is I7.out (.string ⟨#[]⟩) (.int .i64 0) (.string ⟨#[]⟩))
    have B9 := Lib.hid (put3_below B7.out (Nat.le_of_eq HG.out) (.string ⟨#[]⟩) (.int .i64 0) (.string ⟨#[]⟩))
    go_wp2_with fail
    refine bodyPost_ret (results_cell1 rfl _ _ g _ _ _ _ rfl I9.out Tryz.underlying23 rfl (by kernel_rfl)) rfl ?_
    exact ⟨by rw [HR.out]; rfl, B9.out⟩
  | some x =>
    obtain ⟨h, p⟩ := x
    have a1 := (authority_some hau).1
    have a2 := (authority_some hau).2.1
    have a3 := (authority_some hau).2.2.1
    have hh64 : (⟨h.toArray⟩ : ByteArray).size ≤ 64 := by rw [size_mk]; exact (named_parts a1).1
    have CA2 := Lib.hid CA
    unfold auV at CA2
    have C8 := Lib.hid (fun (X : World) (hX : PowTab X) => C6.out ⟨h.toArray⟩ (p : Int) X hh64 ⟨by omega, by omega⟩ hX)
    rw [bl_mk] at C8
    have hsz := HSZ.out h (p : Int)
    clear CA hau C6 HSZ a1 a2 a3
    by_cases hlen : (textF h (p : Int) r).length ≤ 384
    · have e1 : ¬ (384 : Int) < ((textF h (p : Int) r).length : Int) := by omega
      have CP := Lib.hid (fun (X : World) (hX : PowTab X) => C7.out X (by omega) hX)
      clear C7
      cases hpa : pathF r with
      | true =>
        have HR := Lib.hid (show parseF (bl s) = some (h, p, r) by rw [HE.out]; exact end_some h r p hlen hpa)
        rw [hpa] at CP
        clear HE hpa hlen hsz
        generalize textF h (p : Int) r = T at *
        go_enter Tryz.func16, Tryz.ntmps16
        go_wp2_with fail
        try simp only [HG.out]
        refine (C1.out _).mono ?_
        rintro e w1 ⟨rfl, b1⟩
        have I1 := Lib.hid (I0.out.kept (Turn.of_below (S := fun _ => False) b1) (fun h => h))
        have B1 := Lib.hid (B0.out.trans (b1.mono B0.out.size))
        clear b1 I0 B0
        go_wp2_with fail
        refine (C2.out _).mono ?_
        rintro e w2 ⟨rfl, b2⟩
        have I2 := Lib.hid (I1.out.kept (Turn.of_below (S := fun _ => False) b2) (fun h => h))
        have B2 := Lib.hid (B1.out.trans (b2.mono B1.out.size))
        clear b2 I1 B1
        go_wp2_with fail
        refine (C3.out _).mono ?_
        rintro e w3 ⟨rfl, rfl⟩
        go_wp2_with fail
        refine (C4.out _).mono ?_
        rintro e w4 ⟨rfl, rfl⟩
        go_wp2_with fail
        refine (CA2.out _ (HP.out.below B2.out)).mono ?_
        rintro e w5 ⟨rfl, b5⟩
        have I5 := Lib.hid (I2.out.kept (Turn.of_below (S := fun _ => False) b5) (fun h => h))
        have B5 := Lib.hid (B2.out.trans (b5.mono B2.out.size))
        clear b5 I2 B2
        go_wp2_with fail
        refine (CL.out _).mono ?_
        rintro e w6 ⟨rfl, b6⟩
        have I6 := Lib.hid (I5.out.kept (Turn.of_below (S := fun _ => False) b6) (fun h => h))
        have B6 := Lib.hid (B5.out.trans (b6.mono B5.out.size))
        clear b6 I5 B5
        have i7 := I6.out.alloc (.cells #[.string ⟨h.toArray⟩, .int .i64 (p : Int), .string ((⟨#[47]⟩ : ByteArray) ++ (⟨q.toArray⟩ : ByteArray))] 23)
        have b7 := B6.out.alloc B6.out.size (.cells #[.string ⟨h.toArray⟩, .int .i64 (p : Int), .string ((⟨#[47]⟩ : ByteArray) ++ (⟨q.toArray⟩ : ByteArray))] 23)
        have j7 := Is.made w6 23 [.string ⟨h.toArray⟩, .int .i64 (p : Int), .string ((⟨#[47]⟩ : ByteArray) ++ (⟨q.toArray⟩ : ByteArray))]
        have I7 := Lib.hid i7
        have B7 := Lib.hid b7
        have J7 := Lib.hid j7
        clear i7 b7 j7
        go_upto_region 10 with fail
        generalize w6.alloc _ = w7 at *
        have y0 : w7.cell? ⟨w6.heap.size, 0, none⟩ = some (.string ⟨h.toArray⟩) := J7.out.cell 0
        have y1 : w7.cell? ⟨w6.heap.size, 1, none⟩ = some (.int .i64 (p : Int)) := J7.out.cell 1
        have y2 : w7.cell? ⟨w6.heap.size, 2, none⟩ = some (.string ((⟨#[47]⟩ : ByteArray) ++ (⟨q.toArray⟩ : ByteArray))) := J7.out.cell 2
        go_wp2_with fail
        refine (C8.out _ (HP.out.below B7.out)).mono ?_
        rintro e w8 ⟨rfl, b8⟩
        have J8 := Lib.hid (J7.out.kept (Turn.of_below (S := fun _ => False) b8) (fun h => h))
        have I8 := Lib.hid (I7.out.kept (Turn.of_below (S := fun _ => False) b8) (fun h => h))
        have B8 := Lib.hid (B7.out.trans (b8.mono B7.out.size))
        clear b8 I7 B7
        go_wp2_with fail
        refine (CP.out _ (HP.out.below B8.out)).mono ?_
        rintro e w9 ⟨rfl, b9⟩
        have J9 := Lib.hid (J8.out.kept (Turn.of_below (S := fun _ => False) b9) (fun h => h))
        have I9 := Lib.hid (I8.out.kept (Turn.of_below (S := fun _ => False) b9) (fun h => h))
        have B9 := Lib.hid (B8.out.trans (b9.mono B8.out.size))
        clear b9 I8 B8
        have x0 : w9.cell? ⟨w6.heap.size, 0, none⟩ = some (.string ⟨h.toArray⟩) := J9.out.cell 0
        have x1 : w9.cell? ⟨w6.heap.size, 1, none⟩ = some (.int .i64 (p : Int)) := J9.out.cell 1
        have x2 : w9.cell? ⟨w6.heap.size, 2, none⟩ = some (.string ((⟨#[47]⟩ : ByteArray) ++ (⟨q.toArray⟩ : ByteArray))) := J9.out.cell 2
        generalize w6.heap.size = g6 at *
        have c0 : w9.cell? ⟨g, 0, none⟩ = some (.string ⟨#[]⟩) := I9.out.cell 0
        have f0 : w9.frozen? ⟨g, 0, none⟩ = false := I9.out.free 0
        have c1 : w9.cell? ⟨g, 1, none⟩ = some (.int .i64 0) := I9.out.cell 1
        have f1 : w9.frozen? ⟨g, 1, none⟩ = false := I9.out.free 1
        have c2 : w9.cell? ⟨g, 2, none⟩ = some (.string ⟨#[]⟩) := I9.out.cell 2
        have f2 : w9.frozen? ⟨g, 2, none⟩ = false := I9.out.free 2
        have I10 := Lib.hid (put3_is I9.out (.string ⟨h.toArray⟩) (.int .i64 (p : Int)) (.string ((⟨#[47]⟩ : ByteArray) ++ (⟨q.toArray⟩ : ByteArray))))
        have B10 := Lib.hid (put3_below B9.out (Nat.le_of_eq HG.out) (.string ⟨h.toArray⟩) (.int .i64 (p : Int)) (.string ((⟨#[47]⟩ : ByteArray) ++ (⟨q.toArray⟩ : ByteArray))))
        go_wp2_with fail
        refine bodyPost_ret (results_cell1 rfl _ _ g _ _ _ _ rfl I10.out Tryz.underlying23 rfl (by kernel_rfl)) rfl ?_
        refine ⟨?_, B10.out⟩
        rw [HR.out]
        simp only [urlT]
        rw [← HQ.out, mk_bl]
        rfl
      | false =>
        have HR := Lib.hid (show parseF (bl s) = none by rw [HE.out]; exact end_path h r p hpa)
        rw [hpa] at CP
        clear HE hpa hlen hsz
        generalize textF h (p : Int) r = T at *
        go_enter Tryz.func16, Tryz.ntmps16
        go_wp2_with fail
        try simp only [HG.out]
        refine (C1.out _).mono ?_
        rintro e w1 ⟨rfl, b1⟩
        have I1 := Lib.hid (I0.out.kept (Turn.of_below (S := fun _ => False) b1) (fun h => h))
        have B1 := Lib.hid (B0.out.trans (b1.mono B0.out.size))
        clear b1 I0 B0
        go_wp2_with fail
        refine (C2.out _).mono ?_
        rintro e w2 ⟨rfl, b2⟩
        have I2 := Lib.hid (I1.out.kept (Turn.of_below (S := fun _ => False) b2) (fun h => h))
        have B2 := Lib.hid (B1.out.trans (b2.mono B1.out.size))
        clear b2 I1 B1
        go_wp2_with fail
        refine (C3.out _).mono ?_
        rintro e w3 ⟨rfl, rfl⟩
        go_wp2_with fail
        refine (C4.out _).mono ?_
        rintro e w4 ⟨rfl, rfl⟩
        go_wp2_with fail
        refine (CA2.out _ (HP.out.below B2.out)).mono ?_
        rintro e w5 ⟨rfl, b5⟩
        have I5 := Lib.hid (I2.out.kept (Turn.of_below (S := fun _ => False) b5) (fun h => h))
        have B5 := Lib.hid (B2.out.trans (b5.mono B2.out.size))
        clear b5 I2 B2
        go_wp2_with fail
        refine (CL.out _).mono ?_
        rintro e w6 ⟨rfl, b6⟩
        have I6 := Lib.hid (I5.out.kept (Turn.of_below (S := fun _ => False) b6) (fun h => h))
        have B6 := Lib.hid (B5.out.trans (b6.mono B5.out.size))
        clear b6 I5 B5
        have i7 := I6.out.alloc (.cells #[.string ⟨h.toArray⟩, .int .i64 (p : Int), .string ((⟨#[47]⟩ : ByteArray) ++ (⟨q.toArray⟩ : ByteArray))] 23)
        have b7 := B6.out.alloc B6.out.size (.cells #[.string ⟨h.toArray⟩, .int .i64 (p : Int), .string ((⟨#[47]⟩ : ByteArray) ++ (⟨q.toArray⟩ : ByteArray))] 23)
        have j7 := Is.made w6 23 [.string ⟨h.toArray⟩, .int .i64 (p : Int), .string ((⟨#[47]⟩ : ByteArray) ++ (⟨q.toArray⟩ : ByteArray))]
        have I7 := Lib.hid i7
        have B7 := Lib.hid b7
        have J7 := Lib.hid j7
        clear i7 b7 j7
        go_upto_region 10 with fail
        generalize w6.alloc _ = w7 at *
        have y0 : w7.cell? ⟨w6.heap.size, 0, none⟩ = some (.string ⟨h.toArray⟩) := J7.out.cell 0
        have y1 : w7.cell? ⟨w6.heap.size, 1, none⟩ = some (.int .i64 (p : Int)) := J7.out.cell 1
        have y2 : w7.cell? ⟨w6.heap.size, 2, none⟩ = some (.string ((⟨#[47]⟩ : ByteArray) ++ (⟨q.toArray⟩ : ByteArray))) := J7.out.cell 2
        go_wp2_with fail
        refine (C8.out _ (HP.out.below B7.out)).mono ?_
        rintro e w8 ⟨rfl, b8⟩
        have I8 := Lib.hid (I7.out.kept (Turn.of_below (S := fun _ => False) b8) (fun h => h))
        have B8 := Lib.hid (B7.out.trans (b8.mono B7.out.size))
        clear b8 I7 B7
        go_wp2_with fail
        refine (CP.out _ (HP.out.below B8.out)).mono ?_
        rintro e w9 ⟨rfl, b9⟩
        have I9 := Lib.hid (I8.out.kept (Turn.of_below (S := fun _ => False) b9) (fun h => h))
        have B9 := Lib.hid (B8.out.trans (b9.mono B8.out.size))
        clear b9 I8 B8
        have c0 : w9.cell? ⟨g, 0, none⟩ = some (.string ⟨#[]⟩) := I9.out.cell 0
        have f0 : w9.frozen? ⟨g, 0, none⟩ = false := I9.out.free 0
        have c1 : w9.cell? ⟨g, 1, none⟩ = some (.int .i64 0) := I9.out.cell 1
        have f1 : w9.frozen? ⟨g, 1, none⟩ = false := I9.out.free 1
        have c2 : w9.cell? ⟨g, 2, none⟩ = some (.string ⟨#[]⟩) := I9.out.cell 2
        have f2 : w9.frozen? ⟨g, 2, none⟩ = false := I9.out.free 2
        have I10 := Lib.hid (put3_is I9.out (.string ⟨#[]⟩) (.int .i64 0) (.string ⟨#[]⟩))
        have B10 := Lib.hid (put3_below B9.out (Nat.le_of_eq HG.out) (.string ⟨#[]⟩) (.int .i64 0) (.string ⟨#[]⟩))
        go_wp2_with fail
        refine bodyPost_ret (results_cell1 rfl _ _ g _ _ _ _ rfl I10.out Tryz.underlying23 rfl (by kernel_rfl)) rfl ?_
        exact ⟨by rw [HR.out]; rfl, B10.out⟩
    · have e1 : (384 : Int) < ((textF h (p : Int) r).length : Int) := by omega
      have HR := Lib.hid (show parseF (bl s) = none by rw [HE.out]; exact end_long h r p hlen)
      clear HE hlen hsz C7
      generalize textF h (p : Int) r = T at *
      go_enter Tryz.func16, Tryz.ntmps16
      go_wp2_with fail
      try simp only [HG.out]
      refine (C1.out _).mono ?_
      rintro e w1 ⟨rfl, b1⟩
      have I1 := Lib.hid (I0.out.kept (Turn.of_below (S := fun _ => False) b1) (fun h => h))
      have B1 := Lib.hid (B0.out.trans (b1.mono B0.out.size))
      clear b1 I0 B0
      go_wp2_with fail
      refine (C2.out _).mono ?_
      rintro e w2 ⟨rfl, b2⟩
      have I2 := Lib.hid (I1.out.kept (Turn.of_below (S := fun _ => False) b2) (fun h => h))
      have B2 := Lib.hid (B1.out.trans (b2.mono B1.out.size))
      clear b2 I1 B1
      go_wp2_with fail
      refine (C3.out _).mono ?_
      rintro e w3 ⟨rfl, rfl⟩
      go_wp2_with fail
      refine (C4.out _).mono ?_
      rintro e w4 ⟨rfl, rfl⟩
      go_wp2_with fail
      refine (CA2.out _ (HP.out.below B2.out)).mono ?_
      rintro e w5 ⟨rfl, b5⟩
      have I5 := Lib.hid (I2.out.kept (Turn.of_below (S := fun _ => False) b5) (fun h => h))
      have B5 := Lib.hid (B2.out.trans (b5.mono B2.out.size))
      clear b5 I2 B2
      go_wp2_with fail
      refine (CL.out _).mono ?_
      rintro e w6 ⟨rfl, b6⟩
      have I6 := Lib.hid (I5.out.kept (Turn.of_below (S := fun _ => False) b6) (fun h => h))
      have B6 := Lib.hid (B5.out.trans (b6.mono B5.out.size))
      clear b6 I5 B5
      have i7 := I6.out.alloc (.cells #[.string ⟨h.toArray⟩, .int .i64 (p : Int), .string ((⟨#[47]⟩ : ByteArray) ++ (⟨q.toArray⟩ : ByteArray))] 23)
      have b7 := B6.out.alloc B6.out.size (.cells #[.string ⟨h.toArray⟩, .int .i64 (p : Int), .string ((⟨#[47]⟩ : ByteArray) ++ (⟨q.toArray⟩ : ByteArray))] 23)
      have j7 := Is.made w6 23 [.string ⟨h.toArray⟩, .int .i64 (p : Int), .string ((⟨#[47]⟩ : ByteArray) ++ (⟨q.toArray⟩ : ByteArray))]
      have I7 := Lib.hid i7
      have B7 := Lib.hid b7
      have J7 := Lib.hid j7
      clear i7 b7 j7
      go_upto_region 10 with fail
      generalize w6.alloc _ = w7 at *
      have y0 : w7.cell? ⟨w6.heap.size, 0, none⟩ = some (.string ⟨h.toArray⟩) := J7.out.cell 0
      have y1 : w7.cell? ⟨w6.heap.size, 1, none⟩ = some (.int .i64 (p : Int)) := J7.out.cell 1
      have y2 : w7.cell? ⟨w6.heap.size, 2, none⟩ = some (.string ((⟨#[47]⟩ : ByteArray) ++ (⟨q.toArray⟩ : ByteArray))) := J7.out.cell 2
      go_wp2_with fail
      refine (C8.out _ (HP.out.below B7.out)).mono ?_
      rintro e w8 ⟨rfl, b8⟩
      have I8 := Lib.hid (I7.out.kept (Turn.of_below (S := fun _ => False) b8) (fun h => h))
      have B8 := Lib.hid (B7.out.trans (b8.mono B7.out.size))
      clear b8 I7 B7
      have c0 : w8.cell? ⟨g, 0, none⟩ = some (.string ⟨#[]⟩) := I8.out.cell 0
      have f0 : w8.frozen? ⟨g, 0, none⟩ = false := I8.out.free 0
      have c1 : w8.cell? ⟨g, 1, none⟩ = some (.int .i64 0) := I8.out.cell 1
      have f1 : w8.frozen? ⟨g, 1, none⟩ = false := I8.out.free 1
      have c2 : w8.cell? ⟨g, 2, none⟩ = some (.string ⟨#[]⟩) := I8.out.cell 2
      have f2 : w8.frozen? ⟨g, 2, none⟩ = false := I8.out.free 2
      have I9 := Lib.hid (put3_is I8.out (.string ⟨#[]⟩) (.int .i64 0) (.string ⟨#[]⟩))
      have B9 := Lib.hid (put3_below B8.out (Nat.le_of_eq HG.out) (.string ⟨#[]⟩) (.int .i64 0) (.string ⟨#[]⟩))
      go_wp2_with fail
      refine bodyPost_ret (results_cell1 rfl _ _ g _ _ _ _ rfl I9.out Tryz.underlying23 rfl (by kernel_rfl)) rfl ?_
      exact ⟨by rw [HR.out]; rfl, B9.out⟩

theorem parse_any (s : ByteArray) (w : World) (hs : s.size ≤ 281474976710000) (hp : PowTab w) : Calls Tryz.prog 16 #[.string s] w (UrlGot (urlT (parseF (bl s))) w) := by
  cases hb : (lowF ((bl s).take 7) == httpL) with
  | false =>
    by_cases h7 : s.size < 7
    · exact parse_no_short s w h7 hb hp
    · exact parse_no_long s w h7 hb hp
  | true =>
    cases hc : (cutA ((bl s).drop 7)).1.contains 58 with
    | true =>
      cases hq : decide ((cutA ((bl s).drop 7)).2.take 1 = [47]) with
      | true => exact parse_yes_cs s w hs hb hc hq hp
      | false => exact parse_yes_cn s w hs hb hc hq hp
    | false =>
      cases hq : decide ((cutA ((bl s).drop 7)).2.take 1 = [47]) with
      | true => exact parse_yes_ns s w hs hb hc hq hp
      | false => exact parse_yes_nn s w hs hb hc hq hp
end Go.Proofs.YthkcniimnaephaaGreatDoor.Uri
