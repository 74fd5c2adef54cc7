/-
  What package date's dayText and Text answer.
  Conditions: those that each theorem names.
-/
import Derived.Test.YtdcbcjljmjnopaaGreatDoorNA
import Derived.Test.YtdcbcjljmjnopaaGreatDoorUA
import Derived.Test.YtdcbcjljmjnopaaGreatDoorShelf
import Derived.Lib.ItoaMem
import Derived.Lib.AppendIntMem
import Derived.Lib.Walk
import Derived.BigCall
import Derived.BigGuard
import Derived.Test.YtdcbcjljmjnopaaGreatDoorDC
import Derived.WalkSmall
import Derived.Lib.SmallJoins
import Derived.Deep.RegionHeld3
import Derived.IntWalk
namespace Go.Proofs.YtdcbcjljmjnopaaGreatDoor
open Go.RowKit Go.Sort

/-- A text is told; nothing that was there has turned. -/
def Told (l : List UInt8) (w : World) (e : Ending) (w' : World) : Prop := e = .returned (.string ⟨l.toArray⟩) ∧ Below w.heap.size w w'
def PowTab (w : World) : Prop := Lib.TabIs Tryz.prog w "internal/strconv.uint64pow10" .u64 Lib.pow10Tab
theorem PowTab.below {w w' : World} (h : PowTab w) (hb : Below w.heap.size w w') : PowTab w' := Lib.tabBelow_of_tabIs h w' hb

theorem holds_front (w : World) (T : TypeId) (nd : Nat) (hs : nd ≤ 24) : Holds (fun (b : UInt8) => Value.int .u8 (b.toNat : Int)) (w.alloc (.cells Lib.zeros24 T)) w.heap.size 0 (Array.replicate nd (0 : UInt8)) := fun j hj => by
  have hj' : j < nd := by simpa using hj
  refine ⟨?_, World.frozen?_alloc_new _ _ _ _⟩
  rw [World.cell?_alloc_new, Lib.zeros24_at _ (by omega), getElem!_pos _ j hj]
  simp
theorem below_put (w : World) (o : Obj) (off : Nat) (dk : Array UInt8) (k : Nat) : Below w.heap.size w ((putRow (fun (b : UInt8) => Value.int .u8 (b.toNat : Int)) (w.alloc o) w.heap.size off dk).drewN k) := by
  rw [alloc_eq_grow]
  obtain ⟨os', _, e⟩ := putRow_grow_new (fun (b : UInt8) => Value.int .u8 (b.toNat : Int)) w #[o] w.heap.size off dk (Nat.le_refl _)
  rw [e]
  exact Lib.below_grow _ w (Nat.le_refl _) k os'

set_option maxHeartbeats 6400000 in
set_option maxRecDepth 100000 in
theorem fmt_ten (u : Nat) (hu64 : u < 18446744073709551616) (w : World) (htab : PowTab w) : Calls Tryz.prog 118 #[.int .u64 (u : Int), .int .i64 10] w (Told (numF 10 u) w) := by
  rw [← dec_numF]
  by_cases hs : u < 100
  · go_enter Tryz.func118, Tryz.ntmps118
    go_wp2_with (go_at_call 140; refine (Tryz.internal_strconv_small u hs _).mono ?_; rintro e w' ⟨rfl, rfl⟩)
    go_ret
    exact ⟨rfl, Below.refl _ _⟩
  · have hu1 : 1 ≤ u := by omega
    have hnd20 : Lib.nDigits u ≤ 20 := by have := Lib.numDigits_eq u hu1 hu64; split at this <;> omega
    have hal : Tryz.prog.arrayLen 153 = 24 := by kernel_rfl
    have hsl1 : ∀ W, (Instr.sliceAt 153 (.pointer (some ⟨w.heap.size, 0, none⟩)) none (some (.int .i64 (Lib.nDigits u : Int))) none).run Tryz.prog W = .ok (.slice (some ⟨w.heap.size, 0, none⟩) (Lib.nDigits u) 24) W := fun W => by
      rw [run_sliceAt_array_h W 153 ⟨w.heap.size, 0, none⟩ (by kernel_rfl) .i64 (Lib.nDigits u : Int) (by omega) (by rw [hal]; omega)]
      go_simp
    have hH0 := holds_front w 153 (Lib.nDigits u) (by omega)
    have hfmt := Tryz.internal_strconv_formatBase10 w.heap.size 0 24 u (Array.replicate (Lib.nDigits u) 0) (w.alloc (.cells Lib.zeros24 153)) hH0 (by rw [Array.size_replicate]; exact Lib.lt_pow_nDigits u) hu64 (by rw [Array.size_replicate]; omega)
    rw [Array.size_replicate] at hfmt
    have HH0 := Lib.hid hH0
    have HF := Lib.hid hfmt
    have HT := Lib.hid htab
    clear hH0 hal hfmt htab
    go_enter Tryz.func118, Tryz.ntmps118
    go_wp2_with (go_at_call 141; refine (Tryz.internal_strconv_numDigits u hu1 hu64 _ (Lib.tabIs_alloc HT.out _)).mono ?_; rintro e w' ⟨rfl, rfl⟩)
    refine HF.out.mono ?_
    rintro e w' ⟨rfl, k, v', dk, rfl, hFI⟩
    have hcv : (convert 24 9 (.slice (some ⟨w.heap.size, 0, none⟩) (Lib.nDigits u) 24)).run Tryz.prog ((putRow (fun (b : UInt8) => Value.int .u8 (b.toNat : Int)) (w.alloc (.cells Lib.zeros24 153)) w.heap.size 0 dk).drewN k) = .ok (.string ⟨(Lib.decDigits u).toArray⟩) ((putRow (fun (b : UInt8) => Value.int .u8 (b.toNat : Int)) (w.alloc (.cells Lib.zeros24 153)) w.heap.size 0 dk).drewN k) := by
      have h := run_convert_bytes_back (P := Tryz.prog) ((putRow (fun (b : UInt8) => Value.int .u8 (b.toNat : Int)) (w.alloc (.cells Lib.zeros24 153)) w.heap.size 0 dk).drewN k) 24 9 5 ⟨w.heap.size, 0, none⟩ 24 (Lib.decDigits u) Tryz.underlying24 Tryz.underlying5 Tryz.underlying9 (fun j hj => by
        rw [Lib.row_is_numeral hFI j hj, Lib.add_plain, World.cell?_drewN]
        exact cell?_putRow (fun (b : UInt8) => Value.int .u8 (b.toNat : Int)) _ w.heap.size 0 _ dk HH0.out (by rw [hFI.size, Array.size_replicate]) j (by rw [hFI.size]; rw [Lib.decDigits_length] at hj; exact hj))
      rw [Lib.decDigits_length] at h
      exact h
    have HB := Lib.hid (below_put w (.cells Lib.zeros24 153) 0 dk k)
    clear hFI HH0 HF HT
    generalize (putRow (fun (b : UInt8) => Value.int .u8 (b.toNat : Int)) (w.alloc (.cells Lib.zeros24 153)) w.heap.size 0 dk).drewN k = w9 at *
    go_wp2_with fail
    go_ret
    exact ⟨rfl, HB.out⟩
theorem fmt_ten_any (u : Nat) (hu64 : u < 18446744073709551616) (w : World) (htab : PowTab w) : Calls Tryz.prog 106 #[.int .u64 (u : Int), .int .i64 10] w (Told (numF 10 u) w) := by
  have C := Lib.hid (fmt_ten u hu64 w htab)
  clear htab
  go_enter Tryz.func106, Tryz.ntmps106
  go_wp2_with fail
  refine C.out.mono ?_
  rintro e w' ⟨rfl, b⟩
  go_wp2_with fail
  go_ret
  exact ⟨rfl, b⟩
end Go.Proofs.YtdcbcjljmjnopaaGreatDoor

namespace Go.Proofs.YtdcbcjljmjnopaaGreatDoor
open Go.RowKit

/-- A number's digits, read; 0 for what is no number. -/
def numbF (l : List UInt8) : Nat := if l ≠ [] ∧ l.all (digB 10) = true then valF 10 l else 0
theorem dig_ten (c : UInt8) : digB 10 c = decide (48 ≤ c.toNat ∧ c.toNat ≤ 57) := by
  unfold digB worth
  rw [decide_eq_decide]
  split
  · omega
  · split
    · omega
    · split <;> omega
theorem worth_ten (c : UInt8) (h : 48 ≤ c.toNat ∧ c.toNat ≤ 57) : worth c = c.toNat - 48 := by
  unfold worth
  rw [if_pos h]
theorem pu_step : ∀ (l : List UInt8) (acc k : Nat), acc + 1 ≤ 10 ^ k → k + l.length ≤ 8 →
    Lib.parseUintM (2 ^ 64 - 1) acc l = if l.all (digB 10) = true then .ok (l.foldl (fun n c => n * 10 + worth c) acc) else Lib.parseUintB 64 []
  | [], acc, k, _, _ => rfl
  | c :: r, acc, k, h1, h2 => by
    have hk : k + 1 + r.length ≤ 8 := by simpa [Nat.add_assoc, Nat.add_comm 1] using h2
    have hp : 10 ^ k ≤ 10 ^ 7 := Nat.pow_le_pow_right (by omega) (by omega)
    unfold Lib.parseUintM
    rw [List.all_cons, dig_ten]
    by_cases hc : 48 ≤ c.toNat ∧ c.toNat ≤ 57
    · have hlt := UInt8.toNat_lt c
      rw [if_pos hc, if_neg (by omega), if_neg (by omega), pu_step r _ (k + 1) (by rw [Nat.pow_succ]; omega) hk, decide_eq_true hc, Bool.true_and, List.foldl_cons, worth_ten c hc]
    · rw [if_neg hc, decide_eq_false hc, Bool.false_and, if_neg (by simp)]
      rfl
theorem pu_ok (l : List UInt8) (hl : l.length ≤ 8) (h : l ≠ [] ∧ l.all (digB 10) = true) : Lib.parseUintB 64 l = .ok (valF 10 l) := by
  unfold Lib.parseUintB valF
  rw [if_neg h.1, pu_step l 0 0 (by simp) (by omega), if_pos h.2]
theorem pu_no (l : List UInt8) (hl : l.length ≤ 8) (h : ¬ (l ≠ [] ∧ l.all (digB 10) = true)) : Lib.parseUintB 64 l = Lib.parseUintB 64 [] := by
  rw [show Lib.parseUintB 64 l = if l = [] then Lib.parseUintB 64 [] else Lib.parseUintM (2 ^ 64 - 1) 0 l from rfl]
  by_cases h0 : l = []
  · rw [if_pos h0]
  · rw [if_neg h0, pu_step l 0 0 (by simp) (by omega), if_neg (fun e => h ⟨h0, e⟩)]

/-- strconv.ErrSyntax holds an error. -/
def SynVar (w : World) : Prop := ∃ tp p, w.var? Tryz.prog "strconv.ErrSyntax" = some #[.iface tp p]
theorem SynVar.below {w w' : World} (h : SynVar w) (hb : Below w.heap.size w w') : SynVar w' := by
  obtain ⟨tp, p, h⟩ := h
  exact ⟨tp, p, Joins.var_stays (g := 3) (by kernel_rfl) h hb (Nat.le_refl _)⟩
set_option maxHeartbeats 1000000 in
theorem number_any (s : ByteArray) (hs : s.size ≤ 8) (w : World) (hv : SynVar w) : Calls Tryz.prog 73 #[.string s] w (Tell (.int .u64 (numbF (bl s) : Int)) w) := by
  have hl : (bl s).length ≤ 8 := by rw [bl_length]; exact hs
  by_cases h : bl s ≠ [] ∧ (bl s).all (digB 10) = true
  · have hu : numbF (bl s) = valF 10 (bl s) := if_pos h
    have C := Lib.hid (Tryz.strconv_ParseUint_10_at64_ok s (by omega) _ (pu_ok (bl s) hl h) w)
    rw [hu]
    clear hu h hl hv
    generalize valF 10 (bl s) = n at *
    go_enter Tryz.func73, Tryz.ntmps73
    go_wp2_with fail
    refine C.out.mono ?_
    rintro e w' ⟨rfl, hw⟩
    have b : Below w.heap.size w w' := by
      rcases hw with rfl | rfl
      · exact Below.refl _ _
      · exact Lib.bytesWorld_below _ _ _
    clear hw
    go_wp2_with fail
    go_ret
    exact ⟨rfl, b⟩
  · have hu : numbF (bl s) = 0 := if_neg h
    obtain ⟨tp, p, hv⟩ := hv
    have C := Lib.hid (Tryz.strconv_ParseUint_10_at64_syntax_var s (by omega) (pu_no (bl s) hl h) tp p w hv)
    rw [hu]
    clear hu h hl hv
    go_enter Tryz.func73, Tryz.ntmps73
    go_wp2_with fail
    refine C.out.mono ?_
    rintro e w' ⟨N, rfl, _, _, b⟩
    go_wp2_with fail
    go_ret
    exact ⟨rfl, b⟩

theorem repeat_nought (c : Nat) : Lib.repeatL [48] c = List.replicate c 48 := by
  have := Lib.repeatL_replicate 48 1 c
  simpa using this
set_option maxHeartbeats 1000000 in
theorem digits_any (n wd : Nat) (h0 : 0 < wd) (hw : wd ≤ 4) (hn : n < 10 ^ wd) (w : World) (ht : PowTab w) : Calls Tryz.prog 95 #[.int .u64 (n : Int), .int .i64 (wd : Int)] w (Told (fixF wd n) w) := by
  obtain ⟨hf, hl⟩ := fixF_num wd n h0 hn
  have hp : 10 ^ wd ≤ 10 ^ 4 := Nat.pow_le_pow_right (by omega) hw
  have C1 := Lib.hid (fmt_ten_any n (by omega) w ht)
  have HF := Lib.hid hf
  have HL := Lib.hid (show (numF 10 n).length = (numF 10 n).length from rfl)
  clear hf hp hn ht
  generalize fixF wd n = r at *
  generalize numF 10 n = D at *
  have C2 := Lib.hid (fun W : World => Tryz.strings_Repeat ⟨#[48]⟩ (wd - D.length) W (by omega) (by show 1 * (wd - D.length) ≤ _; omega))
  rw [show (((wd - D.length : Nat)) : Int) = (wd : Int) - (D.length : Int) by omega, show (⟨#[48]⟩ : ByteArray).data.toList = [48] from rfl, repeat_nought] at C2
  have hz : (List.replicate (wd - D.length) (48 : UInt8)).length ≤ 4 := by simp; omega
  generalize List.replicate (wd - D.length) (48 : UInt8) = R at *
  have hsz : ¬ 9223372036854775807 < R.length + D.length := by omega
  go_enter Tryz.func95, Tryz.ntmps95
  go_wp2_with fail
  refine C1.out.mono ?_
  rintro e w1 ⟨rfl, b1⟩
  go_wp2_with fail
  refine (C2.out _).mono ?_
  rintro e w2 ⟨rfl, b2⟩
  go_wp2_with fail
  go_ret
  exact ⟨by rw [HF.out]; rfl, b1.trans (b2.mono b1.size)⟩

theorem digits_at (x y : Int) (n wd : Nat) (hx : x = n) (hy : y = wd) (h0 : 0 < wd) (hw : wd ≤ 4) (hn : n < 10 ^ wd) (w : World) (ht : PowTab w) : Calls Tryz.prog 95 #[.int .u64 x, .int .i64 y] w (Told (fixF wd n) w) := by
  rw [hx, hy]
  exact digits_any n wd h0 hw hn w ht
set_option maxHeartbeats 1000000 in
theorem clock_any (c : Nat) (hc : c < 86400) (w : World) (ht : PowTab w) : Calls Tryz.prog 79 #[.int .u64 (c : Int)] w (Told (clockF c) w) := by
  have HT := Lib.hid ht
  have C1 := Lib.hid (digits_at ((c : Int) / 3600) 2 (c / 3600) 2 (by omega) rfl (by omega) (by omega) (by omega) w ht)
  have C2 := Lib.hid (fun (W : World) h => digits_at ((c : Int) / 60 % 60) 2 (c / 60 % 60) 2 (by omega) rfl (by omega) (by omega) (by omega) W h)
  have C3 := Lib.hid (fun (W : World) h => digits_at ((c : Int) % 60) 2 (c % 60) 2 (by omega) rfl (by omega) (by omega) (by omega) W h)
  have HR := Lib.hid (show clockF c = fixF 2 (c / 3600) ++ ([58] ++ (fixF 2 (c / 60 % 60) ++ ([58] ++ fixF 2 (c % 60)))) from rfl)
  have l1 := fixF_len 2 (c / 3600)
  have l2 := fixF_len 2 (c / 60 % 60)
  have l3 := fixF_len 2 (c % 60)
  clear ht
  generalize clockF c = r at *
  generalize fixF 2 (c / 3600) = a at *
  generalize fixF 2 (c / 60 % 60) = b at *
  generalize fixF 2 (c % 60) = d at *
  go_enter Tryz.func79, Tryz.ntmps79
  go_wp2_with fail
  refine C1.out.mono ?_
  rintro e w1 ⟨rfl, b1⟩
  have B1 := Lib.hid b1
  clear b1
  go_wp2_with fail
  refine (C2.out _ (HT.out.below B1.out)).mono ?_
  rintro e w2 ⟨rfl, b2⟩
  have B2 := Lib.hid (B1.out.trans (b2.mono B1.out.size))
  clear b2 B1
  go_wp2_with fail
  refine (C3.out _ (HT.out.below B2.out)).mono ?_
  rintro e w3 ⟨rfl, b3⟩
  have B3 := Lib.hid (B2.out.trans (b3.mono B2.out.size))
  clear b3 B2
  go_wp2_with fail
  go_ret
  exact ⟨by rw [HR.out]; simp only [mk_append, List.append_assoc]; rfl, B3.out⟩
end Go.Proofs.YtdcbcjljmjnopaaGreatDoor

namespace Go.Proofs.YtdcbcjljmjnopaaGreatDoor
open Go.RowKit

theorem wrap_u64 (x : Int) (h : 0 ≤ x ∧ x < 18446744073709551616) : IntKind.u64.wrap x = x := by
  show x % 18446744073709551616 = x
  omega
/-- A text is told; nothing that was there at w has turned. -/
def Since (l : List UInt8) (w : World) (e : Ending) (w' : World) : Prop := e = .returned (.string ⟨l.toArray⟩) ∧ Below w.heap.size w w'
theorem since_told {f : FuncId} {args : Array Value} {l : List UInt8} {w X : World} (hX : Below w.heap.size w X) (h : Calls Tryz.prog f args X (Told l X)) : Calls Tryz.prog f args X (Since l w) :=
  h.mono fun _ _ h => ⟨h.1, hX.trans (h.2.mono hX.size)⟩
/-- The closure that monthDays makes. -/
def MadeFn (y : Nat) (w : World) (e : Ending) (w' : World) : Prop :=
  ∃ p, e = .returned (.func (.func 93) #[] #[.pointer (some p)]) ∧ Below w.heap.size w w' ∧ w'.cell? p = some (.int .u64 (y : Int))
set_option maxHeartbeats 1000000 in
theorem month_fn (x : Int) (y : Nat) (hx : x = y) (w : World) : Calls Tryz.prog 77 #[.int .u64 x] w (MadeFn y w) := by
  subst hx
  go_enter Tryz.func77, Tryz.ntmps77
  go_wp2_with fail
  go_ret
  exact ⟨_, rfl, (Below.refl _ _).alloc (Nat.le_refl _) _, by rw [World.cell?_alloc_new]; rfl⟩

set_option maxHeartbeats 4000000 in
theorem day_text (d : Nat) (hd : d ≤ 2932896) (w : World) (ht : PowTab w) (hm : MonTab w) : Calls Tryz.prog 78 #[.int .u64 (d : Int)] w (Told (dayTF d) w) := by
  have hyl := year_last d hd
  have hya : yearAt d = (d / 146097 * 400 + (findF yl 399 0 (d % 146097)).1, (findF yl 399 0 (d % 146097)).2) := rfl
  obtain ⟨⟨hmw, hmr⟩, hml⟩ := month_within d
  have hma : monthAt d = findF (ml (1970 + (yearAt d).1)) 11 0 (yearAt d).2 := rfl
  have hR : dayTF d = fixF 2 ((monthAt d).2 + 1) ++ ([32] ++ (mnN (monthAt d).1 ++ ([32] ++ fixF 4 (1970 + (yearAt d).1)))) := rfl
  have hr1 : (findF yl 399 0 (d % 146097)).2 < 366 := by
    have := (year_in d).1.2
    have h2 := (yl_pos (findF yl 399 0 (d % 146097)).1).2
    omega
  have hy1 := (year_in d).2
  have C1 : Calls Tryz.prog 94 #[.int .u64 ((d : Int) % 146097), .int .u64 400, .func (.func 75) #[] #[]] w (Same (.tuple #[.int .u64 ((findF yl 399 0 (d % 146097)).1 : Int), .int .u64 ((findF yl 399 0 (d % 146097)).2 : Int)]) w) := by
    rw [show (d : Int) % 146097 = ((d % 146097 : Nat) : Int) by omega, show (400 : Int) = ((399 : Nat) : Int) + 1 from rfl]
    exact within_year w 399 (d % 146097) (by omega) (by omega)
  rw [hya] at hma hR hmr hyl
  simp only at hma hR hmr hyl
  have hml31 := ml_le (1970 + (d / 146097 * 400 + (findF yl 399 0 (d % 146097)).1)) (monthAt d).1
  clear hmw hya
  generalize findF yl 399 0 (d % 146097) = q at *
  obtain ⟨y1, r1⟩ := q
  simp only at hma hR hmr hyl hr1 hy1 hml31 C1
  have C3 := Lib.hid (fun (p : Addr) (X : World) h1 h2 => within_month (1970 + (d / 146097 * 400 + y1)) p X h1 h2 11 r1 (by omega) (by omega))
  rw [← hma] at C3
  clear hma
  generalize monthAt d = q at *
  obtain ⟨m, x⟩ := q
  simp only at hR hml hmr hml31 C3
  have hxl : x < 31 := by omega
  have C2 := Lib.hid (fun X : World => month_fn (1970 + (d : Int) / 146097 * 400 + (y1 : Int)) (1970 + (d / 146097 * 400 + y1)) (by omega) X)
  have C4 := Lib.hid (fun (X : World) (hX : Below w.heap.size w X) => since_told hX (digits_at ((x : Int) + 1) 2 (x + 1) 2 (by omega) rfl (by omega) (by omega) (by omega) X (ht.below hX)))
  have C5 := Lib.hid (fun (X : World) (hX : Below w.heap.size w X) => since_told hX (digits_at (1970 + (d : Int) / 146097 * 400 + (y1 : Int)) 4 (1970 + (d / 146097 * 400 + y1)) 4 (by omega) rfl (by omega) (by omega) (by omega) X (ht.below hX)))
  have HR := Lib.hid hR
  have HM := Lib.hid hm
  have hc0 := (hm m (by omega)).1
  have YC := Lib.hid (fun (X : World) (hX : Below w.heap.size w X) => ((hX.cell (Lib.lt_of_cell hc0)).trans hc0 : X.cell? ⟨1, m * 2, none⟩ = some (.string ⟨(mnN m).toArray⟩)))
  have l2 := mnN_len m (by omega)
  have l1 := fixF_len 2 (x + 1)
  have l3 := fixF_len 4 (1970 + (d / 146097 * 400 + y1))
  have C1 := Lib.hid C1
  have i0 : (0 : Int) ≤ (m : Int) := by omega
  have i1 : (m : Int) < 12 := by omega
  have i2 : (y1 : Int) ≤ 399 := by omega
  have i3 : (x : Int) < 31 := by omega
  have i4 : (d : Int) ≤ 2932896 := by omega
  clear hR ht hm hc0 hmr hml31 hyl
  generalize dayTF d = r at *
  generalize fixF 2 (x + 1) = a at *
  generalize mnN m = b at *
  generalize fixF 4 (1970 + (d / 146097 * 400 + y1)) = c at *
  go_enter Tryz.func78, Tryz.ntmps78
  go_wp2_with fail
  refine C1.out.mono ?_
  rintro e w1 ⟨rfl, rfl⟩
  go_wp2_with fail
  refine (C2.out _).mono ?_
  rintro e w2 ⟨p, rfl, b2, hp⟩
  have HP := Lib.hid hp
  have B2 := Lib.hid b2
  clear hp b2
  go_wp2_with fail
  refine (C3.out p w2 (HM.out.below B2.out) HP.out).mono ?_
  rintro e w3 ⟨rfl, rfl⟩
  have y0 := YC.out _ B2.out
  have wx : IntKind.u64.wrap ((x : Int) + 1) = (x : Int) + 1 := wrap_u64 _ (by omega)
  have BD : Hid (Below w.heap.size w w2.drew) := Lib.hid (below_drewN B2.out 1)
  go_wp2_with fail
  go_region_held3 (fun w' => w'.cell? ⟨1, m * 2, none⟩ = some (.string ⟨b.toArray⟩)) (first | exact y0 | exact y5 | exact y6 | go_keep)
    (first
      | (go_at_call 95; (with_reducible refine (C4.out w2.drew BD.out).mono ?_); rintro e w5 ⟨rfl, b5⟩; have y5 := YC.out _ b5; have B5 := Lib.hid b5; clear b5)
      | (go_at_call 95; (with_reducible refine (C5.out _ B5.out).mono ?_); rintro e w6 ⟨rfl, b6⟩; have y6 := YC.out _ b6; have B6 := Lib.hid b6; clear b6))
  go_wp2_with fail
  go_ret
  exact ⟨by rw [HR.out]; simp only [mk_append, List.append_assoc]; rfl, B6.out⟩
end Go.Proofs.YtdcbcjljmjnopaaGreatDoor
