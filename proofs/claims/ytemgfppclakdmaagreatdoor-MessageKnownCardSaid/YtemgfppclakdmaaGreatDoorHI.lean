/-
  What the reference's Parse answers: the walk.
  Conditions: those that each theorem names.
-/
import Derived.Test.YtemgfppclakdmaaGreatDoorHH
namespace Go.Proofs.YtemgfppclakdmaaGreatDoor
open Go.RowKit

/-- What the k-th byte of a slice reads, in any later world. -/
theorem Src.at {P : Nat → Prop} {w wr : World} {A : Option Addr} {bs : List UInt8} {n c k : Nat} (h : Src w P A bs) (hn : bs.length = n) (hlt : k < n) (hB : Below w.heap.size w wr) :
    ∃ (p : Addr) (x : UInt8), bs[k]? = some x ∧ (∀ Wx, (Instr.indexAt 22 (.slice A n c) (.int .i64 (k : Int))).run Tryz.prog Wx = .ok (.pointer (some p)) Wx) ∧ wr.cell? p = some (.int .u8 (x.toNat : Int)) := by
  obtain ⟨ad, hA, hP, hadb, hc⟩ := h (by omega)
  obtain ⟨x, hx⟩ : ∃ x, bs[k]? = some x := ⟨bs[k]'(by omega), List.getElem?_eq_getElem _⟩
  have c1 := hc k (.int .u8 (x.toNat : Int)) (by rw [vals_get, hx]; rfl)
  refine ⟨ad.add k, x, hx, fun Wx => ?_, (hB.cell (Lib.lt_of_cell c1)).trans c1⟩
  rw [hA]
  exact run_at 22 5 Tryz.underlying22 (by kernel_rfl) ad n c k hlt Wx
theorem byte_int5 (c : UInt8) (n : Nat) (hn : n < 256) : ((c.toNat : Int) = (n : Int)) ↔ c = UInt8.ofNat n := by
  constructor
  · intro h
    apply UInt8.toNat_inj.1
    rw [UInt8.toNat_ofNat_of_lt' (by simpa using hn)]
    omega
  · rintro rfl
    rw [UInt8.toNat_ofNat_of_lt' (by simpa using hn)]
theorem drop_cons {bs : List UInt8} {k : Nat} {x : UInt8} (h : bs[k]? = some x) : bs.drop k = x :: bs.drop (k + 1) := by
  obtain ⟨hk, rfl⟩ := List.getElem?_eq_some_iff.1 h
  exact List.drop_eq_getElem_cons hk

set_option maxHeartbeats 16000000 in
set_option maxRecDepth 100000 in
theorem rparse_head {P : Nat → Prop} (w : World) (A : Option Addr) (bs : List UInt8) (n c : Nat) (hn : bs.length = n) (_hmax : n ≤ 140737488351232) (h : Src w P A bs) :
    Calls Tryz.prog 62 #[.slice A n c] w (HeadGot (parseH bs) w) := by
  have HN := Lib.hid hn
  have H := Lib.hid h
  obtain ⟨R, hR⟩ : ∃ R, parseH bs = R := ⟨_, rfl⟩
  rw [hR]
  have HR := Lib.hid hR
  clear hn h hR
  go_enter Tryz.func62, Tryz.ntmps62
  go_wp2_with fail
  go_loopw [5, 6, 7, 8, 9, 10] (fun vl vn vv vp vg vi wr => ∃ (k part long : Nat) (nm v : List UInt8) (l : List Fld) (o : Option Nat), vn = .string ⟨nm.toArray⟩ ∧ vv = .string ⟨v.toArray⟩ ∧ vp = .int .i64 (part : Int) ∧ vg = .int .i64 (long : Int) ∧ vi = .int .i64 (k : Int) ∧ k ≤ n ∧ k ≤ 2048 ∧ part ≤ 4 ∧ long ≤ 512 ∧ nm.length ≤ k ∧ v.length ≤ k ∧ (∃ ll cap, vl = .slice ll l.length cap) ∧ l.length ≤ k ∧
      Hid (runF k part long nm v l (bs.drop k) = R) ∧ Hid (OwnF wr vl o l) ∧ Hid (∀ b, o = some b → w.heap.size ≤ b) ∧ Hid (Below w.heap.size w wr)) (fun _ _ _ _ _ vi _ => n - (intOf vi).toNat)
  case atStart => exact ⟨0, 0, 0, [], [], [], none, rfl, rfl, rfl, rfl, rfl, Nat.zero_le _, by omega, by omega, by omega, by simp, by simp, ⟨none, 0, rfl⟩, by simp, Lib.hid HR.out, Lib.hid (OwnF.nil _), Lib.hid (fun _ h => by cases h), Lib.hid (Below.refl _ _)⟩
  case round =>
    obtain ⟨k, part, long, nm, v, l, o, rfl, rfl, rfl, rfl, rfl, hk, hk2, hpart, hlong, hnl, hvl, ⟨ll, cap, rfl⟩, hll, HI, HO, HOB, HB⟩ := hrel
    by_cases hlt : k < n
    · obtain ⟨p, x, hx, hat, y0⟩ := H.out.at (c := c) HN.out hlt HB.out
      have HSTOP := Lib.hid (fun (l' : List Fld) (m e : Nat) (hs : stepF k x part long nm v l = .stop l' m e) => (HI.out.symm.trans (by rw [drop_cons hx]; exact runF_stop hs) : R = (l', m, e)))
      have HGO := Lib.hid (fun (part' long' : Nat) (nm' v' : List UInt8) (l' : List Fld) (hs : stepF k x part long nm v l = .go part' long' nm' v' l') => (by
        have h1 := HI.out
        rw [drop_cons hx, runF_go hs] at h1
        exact h1 : runF (k + 1) part' long' nm' v' l' (bs.drop (k + 1)) = R))
      have hxl := UInt8.toNat_lt x
      have C1 := Lib.hid (fun X : World => one_any x X)
      have C2 := Lib.hid (fun X : World => shown5_any x X)
      have CO := Lib.hid (fun X : World => run_one X x)
      have e13 := Lib.hid (show (x = 13) = ((x.toNat : Int) = 13) by rw [eq_iff_iff]; exact (byte_int5 x 13 (by omega)).symm)
      have e10 := Lib.hid (show (x = 10) = ((x.toNat : Int) = 10) by rw [eq_iff_iff]; exact (byte_int5 x 10 (by omega)).symm)
      have e58 := Lib.hid (show (x = 58) = ((x.toNat : Int) = 58) by rw [eq_iff_iff]; exact (byte_int5 x 58 (by omega)).symm)
      clear hx HI
      by_cases hbig : 2048 ≤ k
      · have HQ := Lib.hid (HSTOP.out [] 0 21 (by unfold stepF; rw [if_pos hbig]))
        have i1 : (2048 : Int) ≤ (k : Int) := by omega
        clear HSTOP HGO hbig
        go_wp2_with fail
        go_ret3
        exact head_stop HQ.out rfl rfl HB.out
      · have i1 : ¬ (2048 : Int) ≤ (k : Int) := by omega
        have hx := hxl
        clear hx
        rcases (show part = 0 ∨ part = 1 ∨ part = 2 ∨ part = 3 ∨ part = 4 by omega) with rfl | rfl | rfl | rfl | rfl
        · by_cases h13 : (x.toNat : Int) = 13
          · have hx13 : x = 13 := by rw [e13.out]; exact h13
            have HG := Lib.hid (HGO.out 4 (long) (nm) (v) l (by unfold stepF; rw [if_neg hbig, if_pos rfl, if_pos hx13]))
            clear HSTOP HGO
            go_wp2_with fail
            go_roundw
            case rel => exact ⟨k + 1, 4, long, nm, v, l, o, rfl, rfl, rfl, rfl, by go_num, by omega, by omega, by omega, by omega, by omega, by omega, ⟨_, _, rfl⟩, by omega, HG, HO, HOB, HB⟩
            case measure => simp [intOf]; omega
          · have hx13 : ¬ x = 13 := by rw [e13.out]; exact h13
            by_cases hl32 : l.length = 32
            · have i32 : ((l.length : Int) == 32) = true := beq_iff_eq.2 (by omega)
              have HQ := Lib.hid (HSTOP.out [] 0 21 (by unfold stepF; rw [if_neg hbig, if_pos rfl, if_neg hx13, if_pos hl32]))
              clear HSTOP HGO
              go_wp2_with fail
              go_ret3
              exact head_stop HQ.out rfl rfl HB.out
            · have i32 : ((l.length : Int) == 32) = false := beq_false_of_ne (by omega)
              by_cases hlg : 512 < long + 1
              · have ig : (512 : Int) < (long : Int) + 1 := by omega
                have HQ := Lib.hid (HSTOP.out [] 0 21 (by unfold stepF; rw [if_neg hbig, if_pos rfl, if_neg hx13, if_neg hl32, if_pos hlg]))
                clear HSTOP HGO
                go_wp2_with fail
                go_ret3
                exact head_stop HQ.out rfl rfl HB.out
              · have ig : ¬ (512 : Int) < (long : Int) + 1 := by omega
                by_cases htk : tokB x = true
                · have C1 := C1
                  rw [htk] at C1
                  have HG := Lib.hid (HGO.out 1 (long + 1) ([x]) (v) l (by unfold stepF; rw [if_neg hbig, if_pos rfl, if_neg hx13, if_neg hl32, if_neg hlg, if_pos htk]))
                  clear HSTOP HGO
                  have hco := CO.out
                  go_wp2_with fail
                  refine (C1.out _).mono ?_
                  rintro e w5 ⟨rfl, b5⟩
                  have B5 := Lib.hid (HB.out.trans (b5.mono HB.out.size))
                  have O5 := Lib.hid (HO.out.kept (Turn.of_below (S := fun _ => False) b5) (fun _ _ h => h))
                  clear b5 HB HO
                  go_wp2_with fail
                  go_roundw
                  case rel => exact ⟨k + 1, 1, long + 1, [x], v, l, o, rfl, rfl, rfl, by go_num, by go_num, by omega, by omega, by omega, by omega, by simp <;> omega, by omega, ⟨_, _, rfl⟩, by omega, HG, (Lib.hid (O5.out.kept ((Turn.refl (fun _ => False) _).alloc _) (fun _ _ h => h))), HOB, (Lib.hid (B5.out.alloc B5.out.size _))⟩
                  case measure => simp [intOf]; omega
                · have htf : tokB x = false := by rw [Bool.eq_false_iff]; exact htk
                  rw [htf] at C1
                  have HQ := Lib.hid (HSTOP.out [] 0 20 (by unfold stepF; rw [if_neg hbig, if_pos rfl, if_neg hx13, if_neg hl32, if_neg hlg, if_neg htk]))
                  clear HSTOP HGO
                  go_wp2_with fail
                  refine (C1.out _).mono ?_
                  rintro e w5 ⟨rfl, b5⟩
                  have B5 := Lib.hid (HB.out.trans (b5.mono HB.out.size))
                  have O5 := Lib.hid (HO.out.kept (Turn.of_below (S := fun _ => False) b5) (fun _ _ h => h))
                  clear b5 HB HO
                  go_wp2_with fail
                  go_ret3
                  exact head_stop HQ.out rfl rfl B5.out
        · by_cases h13 : (x.toNat : Int) = 13
          · have hx13 : x = 13 := by rw [e13.out]; exact h13
            have htf : tokB x = false := by rw [hx13]; decide
            rw [htf, h13] at C1
            have HQ := Lib.hid (HSTOP.out [] 0 20 (by unfold stepF; rw [if_neg hbig, if_neg (by omega), if_pos rfl, if_pos hx13]))
            clear HSTOP HGO
            go_wp2_with fail
            refine (C1.out _).mono ?_
            rintro e w5 ⟨rfl, b5⟩
            have B5 := Lib.hid (HB.out.trans (b5.mono HB.out.size))
            have O5 := Lib.hid (HO.out.kept (Turn.of_below (S := fun _ => False) b5) (fun _ _ h => h))
            clear b5 HB HO
            go_wp2_with fail
            go_ret3
            exact head_stop HQ.out rfl rfl B5.out
          · have hx13 : ¬ x = 13 := by rw [e13.out]; exact h13
            by_cases hlg : 512 < long + 1
            · have ig : (512 : Int) < (long : Int) + 1 := by omega
              have HQ := Lib.hid (HSTOP.out [] 0 21 (by unfold stepF; rw [if_neg hbig, if_neg (by omega), if_pos rfl, if_neg hx13, if_pos hlg]))
              clear HSTOP HGO
              go_wp2_with fail
              go_ret3
              exact head_stop HQ.out rfl rfl HB.out
            · have ig : ¬ (512 : Int) < (long : Int) + 1 := by omega
              by_cases h58 : (x.toNat : Int) = 58
              · have hx58 : x = 58 := by rw [e58.out]; exact h58
                have HG := Lib.hid (HGO.out 2 (long + 1) (nm) ([]) l (by unfold stepF; rw [if_neg hbig, if_neg (by omega), if_pos rfl, if_neg hx13, if_neg hlg, if_pos hx58]))
                clear HSTOP HGO
                go_wp2_with fail
                go_roundw
                case rel => exact ⟨k + 1, 2, long + 1, nm, [], l, o, rfl, rfl, rfl, by go_num, by go_num, by omega, by omega, by omega, by omega, by omega, by simp, ⟨_, _, rfl⟩, by omega, HG, HO, HOB, HB⟩
                case measure => simp [intOf]; omega
              · have hx58 : ¬ x = 58 := by rw [e58.out]; exact h58
                by_cases htk : tokB x = true
                · have C1 := C1
                  rw [htk] at C1
                  have HG := Lib.hid (HGO.out 1 (long + 1) (nm ++ [x]) (v) l (by unfold stepF; rw [if_neg hbig, if_neg (by omega), if_pos rfl, if_neg hx13, if_neg hlg, if_neg hx58, if_pos htk]))
                  clear HSTOP HGO
                  have hco := CO.out
                  have hsz : ¬ 9223372036854775807 < nm.length + 1 := by omega
                  go_wp2_with fail
                  refine (C1.out _).mono ?_
                  rintro e w5 ⟨rfl, b5⟩
                  have B5 := Lib.hid (HB.out.trans (b5.mono HB.out.size))
                  have O5 := Lib.hid (HO.out.kept (Turn.of_below (S := fun _ => False) b5) (fun _ _ h => h))
                  clear b5 HB HO
                  go_wp2_with fail
                  go_roundw
                  case rel => exact ⟨k + 1, 1, long + 1, nm ++ [x], v, l, o, (by rw [← mk_append]), rfl, rfl, by go_num, by go_num, by omega, by omega, by omega, by omega, by simp <;> omega, by omega, ⟨_, _, rfl⟩, by omega, HG, (Lib.hid (O5.out.kept ((Turn.refl (fun _ => False) _).alloc _) (fun _ _ h => h))), HOB, (Lib.hid (B5.out.alloc B5.out.size _))⟩
                  case measure => simp [intOf]; omega
                · have htf : tokB x = false := by rw [Bool.eq_false_iff]; exact htk
                  rw [htf] at C1
                  have HQ := Lib.hid (HSTOP.out [] 0 20 (by unfold stepF; rw [if_neg hbig, if_neg (by omega), if_pos rfl, if_neg hx13, if_neg hlg, if_neg hx58, if_neg htk]))
                  clear HSTOP HGO
                  go_wp2_with fail
                  refine (C1.out _).mono ?_
                  rintro e w5 ⟨rfl, b5⟩
                  have B5 := Lib.hid (HB.out.trans (b5.mono HB.out.size))
                  have O5 := Lib.hid (HO.out.kept (Turn.of_below (S := fun _ => False) b5) (fun _ _ h => h))
                  clear b5 HB HO
                  go_wp2_with fail
                  go_ret3
                  exact head_stop HQ.out rfl rfl B5.out
        · by_cases h13 : (x.toNat : Int) = 13
          · have hx13 : x = 13 := by rw [e13.out]; exact h13
            have HG := Lib.hid (HGO.out 3 (long) (nm) (v) l (by unfold stepF; rw [if_neg hbig, if_neg (by omega), if_neg (by omega), if_pos rfl, if_pos hx13]))
            clear HSTOP HGO
            go_wp2_with fail
            go_roundw
            case rel => exact ⟨k + 1, 3, long, nm, v, l, o, rfl, rfl, rfl, rfl, by go_num, by omega, by omega, by omega, by omega, by omega, by omega, ⟨_, _, rfl⟩, by omega, HG, HO, HOB, HB⟩
            case measure => simp [intOf]; omega
          · have hx13 : ¬ x = 13 := by rw [e13.out]; exact h13
            by_cases hlg : 512 < long + 1
            · have ig : (512 : Int) < (long : Int) + 1 := by omega
              have HQ := Lib.hid (HSTOP.out [] 0 21 (by unfold stepF; rw [if_neg hbig, if_neg (by omega), if_neg (by omega), if_pos rfl, if_neg hx13, if_pos hlg]))
              clear HSTOP HGO
              go_wp2_with fail
              go_ret3
              exact head_stop HQ.out rfl rfl HB.out
            · have ig : ¬ (512 : Int) < (long : Int) + 1 := by omega
              by_cases htk : shownB x = true
              · have C2 := C2
                rw [htk] at C2
                have HG := Lib.hid (HGO.out 2 (long + 1) (nm) (v ++ [x]) l (by unfold stepF; rw [if_neg hbig, if_neg (by omega), if_neg (by omega), if_pos rfl, if_neg hx13, if_neg hlg, if_pos htk]))
                clear HSTOP HGO
                have hco := CO.out
                have hsz : ¬ 9223372036854775807 < v.length + 1 := by omega
                go_wp2_with fail
                refine (C2.out _).mono ?_
                rintro e w5 ⟨rfl, b5⟩
                have B5 := Lib.hid (HB.out.trans (b5.mono HB.out.size))
                have O5 := Lib.hid (HO.out.kept (Turn.of_below (S := fun _ => False) b5) (fun _ _ h => h))
                clear b5 HB HO
                go_wp2_with fail
                go_roundw
                case rel => exact ⟨k + 1, 2, long + 1, nm, v ++ [x], l, o, rfl, (by rw [← mk_append]), rfl, by go_num, by go_num, by omega, by omega, by omega, by omega, by omega, by simp <;> omega, ⟨_, _, rfl⟩, by omega, HG, (Lib.hid (O5.out.kept ((Turn.refl (fun _ => False) _).alloc _) (fun _ _ h => h))), HOB, (Lib.hid (B5.out.alloc B5.out.size _))⟩
                case measure => simp [intOf]; omega
              · have htf : shownB x = false := by rw [Bool.eq_false_iff]; exact htk
                rw [htf] at C2
                have HQ := Lib.hid (HSTOP.out [] 0 20 (by unfold stepF; rw [if_neg hbig, if_neg (by omega), if_neg (by omega), if_pos rfl, if_neg hx13, if_neg hlg, if_neg htk]))
                clear HSTOP HGO
                go_wp2_with fail
                refine (C2.out _).mono ?_
                rintro e w5 ⟨rfl, b5⟩
                have B5 := Lib.hid (HB.out.trans (b5.mono HB.out.size))
                have O5 := Lib.hid (HO.out.kept (Turn.of_below (S := fun _ => False) b5) (fun _ _ h => h))
                clear b5 HB HO
                go_wp2_with fail
                go_ret3
                exact head_stop HQ.out rfl rfl B5.out
        · by_cases h10 : (x.toNat : Int) = 10
          · have hx10 : x = 10 := by rw [e10.out]; exact h10
            have HG := Lib.hid (HGO.out 0 0 nm v (l ++ [(nm, trimF v)]) (by unfold stepF; rw [if_neg hbig, if_neg (by omega), if_neg (by omega), if_neg (by omega), if_pos rfl, if_pos hx10]))
            clear HSTOP HGO
            have CT := Lib.hid (fun X : World => trim_any ⟨v.toArray⟩ X (by rw [← bl_length, bl_mk]; omega))
            rw [bl_mk] at CT
            obtain ⟨v', w', o', hrun, own', t', ho'⟩ := run_push_fld wr _ o l (nm, trimF v) HO.out (by omega)
            have HR5 := Lib.hid hrun
            have TT := Lib.hid (own_turn HB.out HOB.out t' ho')
            obtain ⟨A2, c2, hv', _⟩ := own'.src (fun _ => True) (fun _ _ => trivial)
            have OO := Lib.hid own'
            have HV := Lib.hid hv'
            clear hrun own' t' ho' hv'
            simp only at HR5
            go_wp2_with fail
            refine (CT.out _).mono ?_
            rintro e w5 ⟨rfl, rfl⟩
            go_wp2_with (at_builtin; refine append_by rfl (.tmp 77) (.tmp 82) 23 rfl _ _ v' w' rfl rfl HR5.out ?_)
            go_roundw
            case rel => exact ⟨k + 1, 0, 0, nm, v, l ++ [(nm, trimF v)], o', rfl, rfl, rfl, rfl, by go_num, by omega, by omega, by omega, by omega, by omega, by omega, ⟨A2, c2, HV.out⟩, by simp <;> omega, HG, OO, Lib.hid TT.out.2, Lib.hid TT.out.1⟩
            case measure => simp [intOf]; omega
          · have hx10 : ¬ x = 10 := by rw [e10.out]; exact h10
            have HQ := Lib.hid (HSTOP.out [] 0 20 (by unfold stepF; rw [if_neg hbig, if_neg (by omega), if_neg (by omega), if_neg (by omega), if_pos rfl, if_neg hx10]))
            clear HSTOP HGO
            go_wp2_with fail
            go_ret3
            exact head_stop HQ.out rfl rfl HB.out
        · by_cases h10 : (x.toNat : Int) = 10
          · have hx10 : x = 10 := by rw [e10.out]; exact h10
            have HQ := Lib.hid (HSTOP.out l (k + 1) 0 (by unfold stepF; rw [if_neg hbig, if_neg (by omega), if_neg (by omega), if_neg (by omega), if_neg (by omega), if_pos hx10]))
            clear HSTOP HGO
            go_wp2_with fail
            go_ret3
            exact ⟨_, o, by rw [HQ.out]; rfl, by rw [HQ.out]; exact HO.out, HOB.out, HB.out⟩
          · have hx10 : ¬ x = 10 := by rw [e10.out]; exact h10
            have HQ := Lib.hid (HSTOP.out [] 0 20 (by unfold stepF; rw [if_neg hbig, if_neg (by omega), if_neg (by omega), if_neg (by omega), if_neg (by omega), if_neg hx10]))
            clear HSTOP HGO
            go_wp2_with fail
            go_ret3
            exact head_stop HQ.out rfl rfl HB.out
    · have HQ := Lib.hid (show R = ([], 0, 8) by
        have h1 := HI.out
        rw [List.drop_of_length_le (by rw [HN.out]; omega)] at h1
        exact h1.symm)
      go_wp2_with fail
      go_ret3
      exact head_stop HQ.out rfl rfl HB.out
end Go.Proofs.YtemgfppclakdmaaGreatDoor
