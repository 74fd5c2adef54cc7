/-
  The law FreshSays: walk.
  Conditions: what the arguments read as; lists and texts lie in memory; tables are as their texts lay them.
-/
import Derived.Test.YtdcbcjljmjnopaaGreatDoorJZA
import Derived.Test.YtdcbcjljmjnopaaGreatDoorJV
import Derived.Test.YtdcbcjljmjnopaaGreatDoorLW
namespace Go.Proofs.YtdcbcjljmjnopaaGreatDoor.Fre
open Go.RowKit Hop Con

theorem row_ownF {w : World} {g c : Nat} {cur : List Value} {ls : List Fld} (h : Is w g 42 cur) (hn : ls.length ≤ c) (hc : c ≤ maxLen) (hl : cur.length = c * 2) (ht : cur.take (ls.length * 2) = flds ls) : OwnF w (.slice (some ⟨g, 0, none⟩) ls.length c) (some g) ls := by
  refine ⟨⟨flds_length ls, .inr ⟨g, c, cur.toArray, rfl, Nat.zero_le _, h, hn, hc, by simpa using hl, by simpa using ht⟩⟩, rfl⟩
set_option maxHeartbeats 32000000 in
set_option maxRecDepth 100000 in
theorem says_law {P : Nat → Prop} (w0 : World) (A : Option Addr) (n c : Nat) (st : Int) (sh mx : Nat) (ls : List Fld) (hn : ls.length = n) (hmax : n * 32 ≤ 140737488351232) (hs : Slim ls) (h : SrcF w0 P A ls) (ht : DTabs w0) (h1 : sh < 4294967296) (h2 : mx < 4294967296) :
    Calls Tryz.prog 5 #[.agg #[.slice A n c, .int .i64 st, .int .u32 (sh : Int), .int .u32 (mx : Int)]] w0 fun e w' => e = .returned (.bool true) ∧ Below w0.heap.size w0 w' := by
  obtain ⟨W, hW⟩ : ∃ W, w0.alloc (.cells #[.slice A n c, .int .i64 st, .int .u32 (sh : Int), .int .u32 (mx : Int)] 39) = W := ⟨_, rfl⟩
  have bW : Below w0.heap.size w0 W := by rw [← hW]; exact (Below.refl _ _).alloc (Nat.le_refl _) _
  have iW : Is W w0.heap.size 39 [.slice A n c, .int .i64 st, .int .u32 (sh : Int), .int .u32 (mx : Int)] := by rw [← hW]; exact Is.made w0 _ _
  obtain ⟨s1, hs1⟩ : ∃ s1, sh / 2 = s1 := ⟨_, rfl⟩
  obtain ⟨m1, hm1⟩ : ∃ m1, mx / 2 = m1 := ⟨_, rfl⟩
  have l1 : s1 ≤ 2147483647 := by omega
  have l2 : m1 ≤ 2147483647 := by omega
  have e1 : (sh : Int) / 2 = (s1 : Int) := by omega
  have e2 : (mx : Int) / 2 = (m1 : Int) := by omega
  have CW := Lib.hid (awake_any W (ht.below bW))
  have HT := Lib.hid ht
  have HN := Lib.hid hn
  have HM := Lib.hid hmax
  have HS := Lib.hid hs
  have HW := Lib.hid hW
  have HB := Lib.hid bW
  have HI := Lib.hid iW
  have H := Lib.hid h
  clear hs1 hm1 ht hn hmax hs hW bW iW h h1 h2
  go_enter Tryz.func5, Tryz.ntmps5
  go_upto_region 1 with fail
  rw [HW.out]
  go_wp2_with fail
  refine CW.out.mono ?_
  rintro e w1 ⟨rfl, b1⟩
  have B1 := Lib.hid (HB.out.trans (b1.mono HB.out.size))
  have I1 := Lib.hid (HI.out.kept (Turn.of_below (S := fun _ => False) b1) (fun h => h))
  clear b1 CW HI HB HW
  have x0 : w1.cell? ⟨w0.heap.size, 0, none⟩ = some (.slice A n c) := I1.out.cell 0
  have x1 : w1.cell? ⟨w0.heap.size, 1, none⟩ = some (.int .i64 st) := I1.out.cell 1
  have x2 : w1.cell? ⟨w0.heap.size, 2, none⟩ = some (.int .u32 (sh : Int)) := I1.out.cell 2
  have x3 : w1.cell? ⟨w0.heap.size, 3, none⟩ = some (.int .u32 (mx : Int)) := I1.out.cell 3
  go_upto_region 1 with fail
  go_quiet (fail)
  have B2 := Lib.hid (below_drewN B1.out nq)
  have I2 := Lib.hid (I1.out.kept (Turn.of_below (S := fun _ => False) (below_drewN (Below.refl w1.heap.size w1) nq)) (fun h => h))
  clear B1 I1 e1 e2 x0 x1 x2 x3
  generalize w1.drewN nq = wb at *
  have x0 : wb.cell? ⟨w0.heap.size, 0, none⟩ = some (.slice A n c) := I2.out.cell 0
  go_wp2_with fail
  clear x0
  have hn32 := HM.out
  have HS0 := Lib.hid (H.out.below B2.out)
  go_loopw [5, 25] (fun v vi wr => ∃ (k : Nat) (o : Option Nat), vi = .int .i64 (k : Int) ∧ k ≤ n ∧ Hid (OwnF wr v o (restF (ls.take k))) ∧ Hid (∀ b, o = some b → wb.heap.size ≤ b) ∧ Hid (Below wb.heap.size wb wr)) (fun _ vi _ => n - (intOf vi).toNat)
  case atStart => exact ⟨0, none, rfl, Nat.zero_le _, Lib.hid (OwnF.nil _), Lib.hid (fun _ h => by cases h), Lib.hid (Below.refl _ _)⟩
  case round =>
    obtain ⟨k, o, rfl, hk, HO, HOB, HB⟩ := hrel
    by_cases hlt : k < n
    · obtain ⟨p, f, hf, hat, y0, y1, _, _⟩ := HS0.out.at (c := c) HN.out hlt HB.out
      have HTK := Lib.hid (show restF (ls.take (k + 1)) = restF (ls.take k) ++ (if decide (f.1.length ≠ 13) = true then [f] else []) by rw [take_snoc ls k f hf, rest_snoc])
      have hrl : (restF (ls.take k)).length ≤ n := by
        have h1 := rest_len (ls.take k)
        rw [List.length_take, HN.out] at h1
        omega
      have hsz := (HS.out f (List.mem_of_getElem? hf)).1
      obtain ⟨a, b⟩ := f
      simp only at y0 y1 HTK hsz
      have ba : Below wr.heap.size wr (wr.alloc (.cells #[.string ⟨a.toArray⟩, .string ⟨b.toArray⟩] 42)) := (Below.refl _ _).alloc (Nat.le_refl _) _
      obtain ⟨v', w', o', hrun, own', t', ho'⟩ := run_push_fld (wr.alloc (.cells #[.string ⟨a.toArray⟩, .string ⟨b.toArray⟩] 42)) _ o (restF (ls.take k)) (a, b) (HO.out.kept (Turn.of_below (S := fun _ => False) ba) (fun _ _ h => h)) (by omega)
      have ha : (wr.alloc (.cells #[.string ⟨a.toArray⟩, .string ⟨b.toArray⟩] 42)).heap.size = wr.heap.size + 1 := by simp
      have Ba := Lib.hid (HB.out.trans (ba.mono HB.out.size))
      have TT := Lib.hid (own_turn Ba.out HOB.out t' ho')
      have Oa := Lib.hid (HO.out.kept (Turn.of_below (S := fun _ => False) ba) (fun _ _ h => h))
      rw [ha] at hrun
      have HR := Lib.hid hrun
      have OO := Lib.hid own'
      obtain ⟨al, hal⟩ : ∃ al : ByteArray, al = ⟨a.toArray⟩ := ⟨_, rfl⟩
      have hb : a.length = al.size := by rw [hal, ← bl_length, bl_mk]
      rw [← hal] at y0 HR
      have HAL := Lib.hid hal
      rw [hb] at HTK hsz
      clear hf hrun own' t' ho' ba ha hal hb
      by_cases h13 : al.size = 13
      · have e1 : ((al.size : Int) == 13) = true := by rw [h13]; rfl
        have HTK2 := Lib.hid (show restF (ls.take (k + 1)) = restF (ls.take k) by rw [HTK.out, if_neg (by simp [h13]), List.append_nil])
        rw [← HAL.out] at Oa Ba
        clear HTK HR OO TT h13
        go_wp2_with fail
        go_roundw
        case rel => exact ⟨k + 1, o, by go_num, hlt, Lib.hid (by rw [HTK2.out]; exact Oa.out), HOB, Ba⟩
        case measure => simp [intOf]; omega
      · have e1 : ((al.size : Int) == 13) = false := beq_eq_false_iff_ne.2 (by omega)
        have HTK2 := Lib.hid (show restF (ls.take (k + 1)) = restF (ls.take k) ++ [(a, b)] by rw [HTK.out, if_pos (by simp [h13])])
        clear HTK h13 Oa Ba
        go_wp2_with (at_builtin; refine append_by rfl (.tmp 33) (.tmp 35) 23 rfl _ _ v' w' rfl rfl HR.out ?_)
        go_roundw
        case rel => exact ⟨k + 1, o', by go_num, hlt, Lib.hid (by rw [HTK2.out]; exact OO.out), Lib.hid TT.out.2, Lib.hid TT.out.1⟩
        case measure => simp [intOf]; omega
    · have HQ := Lib.hid (show ls.take k = ls from List.take_of_length_le (by rw [HN.out]; omega))
      have own := HO.out
      rw [HQ.out] at own
      have BR := Lib.hid (B2.out.trans (HB.out.mono B2.out.size))
      clear HQ HO HS0
      obtain ⟨Ar, cr, hv, src⟩ := own.src (fun _ => True) (fun _ _ => trivial)
      subst hv
      have hm0 := rest_len ls
      obtain ⟨m, hm⟩ : ∃ m, (restF ls).length = m := ⟨_, rfl⟩
      have hmn : m ≤ n := by rw [HN.out] at hm0; omega
      rw [hm] at own ⊢
      have HMM := Lib.hid hm
      clear hm0 hm
      have be : Below wr.heap.size wr (wr.alloc (.cells #[] 42)) := (Below.refl _ _).alloc (Nat.le_refl _) _
      have O1 : OwnF (wr.alloc (.cells #[] 42)) (.slice (some ⟨wr.heap.size, 0, none⟩) 0 0) (some wr.heap.size) [] := row_ownF (ls := []) (cur := []) (Is.made wr 42 []) (Nat.le_refl _) (Nat.zero_le _) rfl rfl
      obtain ⟨v2, w2, o2, hrun2, own2, t2, ho2⟩ := run_append_srcF (wr.alloc (.cells #[] 42)) _ (some wr.heap.size) [] (restF ls) O1 Ar m cr HMM.out (src.below be) (by rw [HMM.out]; simp only [List.length_nil]; omega)
      rw [List.nil_append] at own2
      have T2 := own_turn (o' := o2) (BR.out.trans (be.mono BR.out.size)) (fun b hb => by injection hb with hb; rw [← hb]; exact BR.out.size) t2 (fun b hb => by
        rcases ho2 with h | h
        · rw [h] at hb; exact .inl hb
        · rw [h] at hb; injection hb with hb; right; omega)
      have T2b := own_turn (o' := o2) (HB.out.trans (be.mono HB.out.size)) (fun b hb => by injection hb with hb; rw [← hb]; exact HB.out.size) t2 (fun b hb => by
        rcases ho2 with h | h
        · rw [h] at hb; exact .inl hb
        · rw [h] at hb; injection hb with hb; right; omega)
      have HR2 := Lib.hid hrun2
      have C2 := Lib.hid T2
      have C2b := Lib.hid T2b
      obtain ⟨D, hD⟩ : ∃ D : ByteArray, D = ⟨(numF 10 m1).toArray⟩ := ⟨_, rfl⟩
      have CD := Lib.hid (digits_any m1 (by omega) w2)
      rw [← hD] at CD
      have hds : D.size ≤ 10 := by rw [← bl_length, hD, bl_mk]; exact num_len m1 l2
      obtain ⟨ST, hST⟩ : ∃ ST : ByteArray, (⟨#[109, 97, 120, 45, 97, 103, 101, 61]⟩ : ByteArray) ++ D = ST := ⟨_, rfl⟩
      have hSX : (⟨(maxP m1).toArray⟩ : ByteArray) = ST := by rw [← hST, hD]; exact (mk_append [109, 97, 120, 45, 97, 103, 101, 61] _).symm
      obtain ⟨v3, w3, o3, hrun3, own3, t3, ho3⟩ := run_push_fld w2 v2 o2 (restF ls) (bigC, maxP m1) own2 (by rw [HMM.out]; omega)
      rw [show (bigC, maxP m1).1.toArray = #[67, 97, 99, 104, 101, 45, 67, 111, 110, 116, 114, 111, 108] from rfl, show (⟨(bigC, maxP m1).2.toArray⟩ : ByteArray) = ST from hSX] at hrun3
      have C3 := Lib.hid (own_turn C2.out.1 C2.out.2 t3 ho3)
      have C3b := Lib.hid (own_turn C2b.out.1 C2b.out.2 t3 ho3)
      obtain ⟨Ao, co, hv3, src3⟩ := own3.src (fun _ => True) (fun _ _ => trivial)
      have hl3 : (oneL ls m1).length = m + 1 := by rw [← HMM.out]; simp [oneL]
      have hl3' : (restF ls ++ [(bigC, maxP m1)]).length = m + 1 := hl3
      rw [hl3'] at hv3
      subst hv3
      have HR3 := Lib.hid hrun3
      have S3 := Lib.hid (show SrcF w3 (fun _ => True) Ao (oneL ls m1) from src3)
      have HSZ1 : ¬ 9223372036854775807 < 8 + D.size := by omega
      have HST := Lib.hid hST
      obtain ⟨D2, hD2⟩ : ∃ D2 : ByteArray, D2 = ⟨(numF 10 s1).toArray⟩ := ⟨_, rfl⟩
      have CE := Lib.hid (digits_any s1 (by omega) w3)
      rw [← hD2] at CE
      have hds2 : D2.size ≤ 10 := by rw [← bl_length, hD2, bl_mk]; exact num_len s1 l1
      obtain ⟨SU, hSU⟩ : ∃ SU : ByteArray, (⟨#[83, 45, 77, 97, 120, 65, 103, 101, 61]⟩ : ByteArray) ++ D2 = SU := ⟨_, rfl⟩
      have hSY : (⟨(sharedP s1).toArray⟩ : ByteArray) = SU := by rw [← hSU, hD2]; exact (mk_append [83, 45, 77, 97, 120, 65, 103, 101, 61] _).symm
      have b4 : Below w3.heap.size w3 (w3.alloc (.cells #[.string ⟨#[99, 97, 99, 104, 101, 45, 99, 111, 110, 116, 114, 111, 108]⟩, .string SU] 42)) := (Below.refl _ _).alloc (Nat.le_refl _) _
      have O4 : OwnF (w3.alloc (.cells #[.string ⟨#[99, 97, 99, 104, 101, 45, 99, 111, 110, 116, 114, 111, 108]⟩, .string SU] 42)) (.slice (some ⟨w3.heap.size, 0, none⟩) 1 1) (some w3.heap.size) [(ccN, sharedP s1)] :=
        row_ownF (ls := [(ccN, sharedP s1)]) (cur := [.string ⟨#[99, 97, 99, 104, 101, 45, 99, 111, 110, 116, 114, 111, 108]⟩, .string SU]) (Is.made w3 42 [.string ⟨#[99, 97, 99, 104, 101, 45, 99, 111, 110, 116, 114, 111, 108]⟩, .string SU]) (Nat.le_refl _) (by unfold maxLen; omega) rfl (by rw [← hSY]; rfl)
      obtain ⟨v5, w5, o5, hrun5, own5, t5, ho5⟩ := run_append_srcF (w3.alloc (.cells #[.string ⟨#[99, 97, 99, 104, 101, 45, 99, 111, 110, 116, 114, 111, 108]⟩, .string SU] 42)) _ (some w3.heap.size) [(ccN, sharedP s1)] (oneL ls m1) O4 Ao (m + 1) co hl3 (S3.out.below b4) (by rw [hl3]; simp only [List.length_cons, List.length_nil]; omega)
      have C5 := Lib.hid (own_turn (o' := o5) b4 (fun b hb => by injection hb with hb; rw [← hb]; exact Nat.le_refl _) t5 (fun b hb => by
        rcases ho5 with h | h
        · rw [h] at hb; exact .inl hb
        · rw [h] at hb; injection hb with hb; right; omega)).1
      obtain ⟨Ab, cb, hv5, src5⟩ := own5.src (fun _ => True) (fun _ _ => trivial)
      have hl5 : (bothL ls s1 m1).length = m + 2 := by show ([(ccN, sharedP s1)] ++ oneL ls m1).length = _; rw [List.length_append, hl3]; simp only [List.length_cons, List.length_nil]; omega
      have hl5' : ([(ccN, sharedP s1)] ++ oneL ls m1).length = m + 2 := hl5
      rw [hl5'] at hv5
      subst hv5
      have HR5 := Lib.hid hrun5
      have S5 := Lib.hid (show SrcF w5 (fun _ => True) Ab (bothL ls s1 m1) from src5)
      have HSZ2 : ¬ 9223372036854775807 < 9 + D2.size := by omega
      have S3b := Lib.hid (S3.out.below C5.out)
      have B5 := Lib.hid (C3.out.1.trans (C5.out.mono C3.out.1.size))
      have B5b := Lib.hid (C3b.out.1.trans (C5.out.mono C3b.out.1.size))
      have I5 := I2.out.kept (Turn.of_below (S := fun _ => False) B5b.out) (fun h => h)
      have x1 : w5.cell? ⟨w0.heap.size, 1, none⟩ = some (.int .i64 st) := I5.cell 1
      have CL := Lib.hid (life_says w5 st ⟨#[]⟩ 0 Ao (m + 1) co none 0 0 (oneL ls m1) hl3 S3b.out (one_few ls m1 l2 (by rw [hl3]; omega) (one_slim HS.out m1 l2)) (.inr (by rw [(one_says ls m1 l2).2]; omega)))
      rw [one_life st ls m1 l2] at CL
      unfold LifeTold at CL
      have CM := Lib.hid (fun (X : World) (hX : Below w5.heap.size w5 X) => life_says X st ⟨#[]⟩ 0 Ab (m + 2) cb none 0 0 (bothL ls s1 m1) hl5 (S5.out.below hX) (both_few ls s1 m1 l1 l2 (by rw [hl5]; omega) (both_slim HS.out s1 m1 l1 l2)) (.inl (by rw [both_says ls s1 m1 l1]; omega)))
      rw [both_life st ls s1 m1 l1] at CM
      unfold LifeTold at CM
      have wm : IntKind.i64.wrap (m1 : Int) = (m1 : Int) := wrap_i64 _ (by omega)
      have ws : IntKind.i64.wrap (s1 : Int) = (s1 : Int) := wrap_i64 _ (by omega)
      have hSTr := HST.out
      clear own src be O1 hrun2 own2 t2 ho2 T2 T2b hD hSX hrun3 own3 t3 ho3 src3 hD2 hSY b4 O4 hrun5 own5 t5 ho5 src5 hl3 hl3' hl5 hl5' I5 hds hds2 HST HB HOB C2 C2b C3 C3b S3 S5 S3b
      go_wp2_with (at_builtin; first | (refine append_by rfl (.tmp 38) (.tmp 39) 23 rfl _ _ v2 w2 rfl rfl HR2.out ?_) | (refine append_by rfl (.tmp 40) (.tmp 45) 23 rfl _ _ (.slice Ao (m + 1) co) w3 rfl rfl HR3.out ?_))
      refine CD.out.mono ?_
      rintro e wd ⟨rfl, rfl⟩
      go_wp2_with (at_builtin; first | (refine append_by rfl (.tmp 40) (.tmp 45) 23 rfl _ _ (.slice Ao (m + 1) co) w3 rfl rfl HR3.out ?_))
      refine CE.out.mono ?_
      rintro e wd ⟨rfl, rfl⟩
      go_wp2_with (at_builtin; first | (refine append_by rfl (.tmp 51) (.tmp 52) 23 rfl _ _ (.slice Ab (m + 2) cb) w5 rfl rfl HR5.out ?_))
      refine CL.out.mono ?_
      rintro e w6 ⟨rfl, b6⟩
      have x1 : w6.cell? ⟨w0.heap.size, 1, none⟩ = some (.int .i64 st) := (b6.cell (Lib.lt_of_cell x1)).trans x1
      have B6 := Lib.hid (B5.out.trans (b6.mono B5.out.size))
      have CM := Lib.hid (CM.out w6 b6)
      clear b6 CL
      go_wp2_with fail
      refine CM.out.mono ?_
      rintro e w7 ⟨rfl, b7⟩
      have B7 := Lib.hid (B6.out.trans (b7.mono B6.out.size))
      clear b7 CM
      go_wp2_with fail
      go_ret
      exact ⟨rfl, B7.out⟩
end Go.Proofs.YtdcbcjljmjnopaaGreatDoor.Fre
