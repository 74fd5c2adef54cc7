/-
  What the reference's Request answers.
  Conditions: those that each theorem names.
-/
import Derived.Test.YtemgfppclakdmaaGreatDoorSB
import Derived.Deep.RegionHeld3
namespace Go.Proofs.YtemgfppclakdmaaGreatDoor.Sta
open Go.RowKit

set_option maxHeartbeats 1000000 in
theorem rminor_any (s : ByteArray) (w : World) : Calls Tryz.prog 59 #[.string s] w fun e w' => e = .returned (.int .i64 (minI (minorF (bl s)))) ∧ w = w' := by
  by_cases h0 : bl s = versL 0
  · have e0 : (s.toList == [72, 84, 84, 80, 47, 49, 46, 48]) = true := by rw [eq_str]; exact decide_eq_true h0
    have HM := Lib.hid (show minI (minorF (bl s)) = 0 by unfold minorF; rw [if_pos h0]; rfl)
    clear h0
    go_enter Tryz.func59, Tryz.ntmps59
    go_wp2_with fail
    go_ret
    exact ⟨by rw [HM.out]; rfl, rfl⟩
  · have e0 : (s.toList == [72, 84, 84, 80, 47, 49, 46, 48]) = false := by rw [eq_str]; exact decide_eq_false h0
    by_cases h1 : bl s = versL 1
    · have e1 : (s.toList == [72, 84, 84, 80, 47, 49, 46, 49]) = true := by rw [eq_str]; exact decide_eq_true h1
      have HM := Lib.hid (show minI (minorF (bl s)) = 1 by unfold minorF; rw [if_neg h0, if_pos h1]; rfl)
      clear h0 h1
      go_enter Tryz.func59, Tryz.ntmps59
      go_wp2_with fail
      go_ret
      exact ⟨by rw [HM.out]; rfl, rfl⟩
    · have e1 : (s.toList == [72, 84, 84, 80, 47, 49, 46, 49]) = false := by rw [eq_str]; exact decide_eq_false h1
      have HM := Lib.hid (show minI (minorF (bl s)) = -1 by unfold minorF; rw [if_neg h0, if_neg h1]; rfl)
      clear h0 h1
      go_enter Tryz.func59, Tryz.ntmps59
      go_wp2_with fail
      go_ret
      exact ⟨by rw [HM.out]; rfl, rfl⟩

set_option maxHeartbeats 2000000 in
theorem rtarget_any (s : ByteArray) (w : World) (hs : s.size ≤ 140737488355328) : Calls Tryz.prog 61 #[.string s] w fun e w' => e = .returned (.bool (targF (bl s))) ∧ w = w' := by
  go_enter Tryz.func61, Tryz.ntmps61
  go_wp2_with fail
  go_loopw [3] (fun vi wr => ∃ k : Nat, vi = .int .i64 (k : Int) ∧ k ≤ s.size ∧ Hid (((bl s).take k).all targB = true) ∧ w = wr) (fun vi _ => s.size - (intOf vi).toNat)
  case atStart => exact ⟨0, rfl, Nat.zero_le _, Lib.hid rfl, rfl⟩
  case round =>
    obtain ⟨k, rfl, hk, HA, rfl⟩ := hrel
    by_cases hlt : k < s.size
    · have HTK := Lib.hid (bl_take s k hlt)
      have HG := Lib.hid (bl_get s k hlt)
      by_cases h1 : (s[k].toNat : Int) < 33
      · have HN := Lib.hid (targ_no (bl s) k _ HG.out (by unfold targB; rw [decide_eq_false (by omega)]; rfl))
        clear HTK HG
        go_wp2_with fail
        go_ret
        exact ⟨ret_bool HN.out.symm, rfl⟩
      · by_cases h2 : (126 : Int) < (s[k].toNat : Int)
        · have HN := Lib.hid (targ_no (bl s) k _ HG.out (by unfold targB; rw [decide_eq_false (show ¬ s[k].toNat ≤ 126 by omega)]; simp))
          clear HTK HG
          go_wp2_with fail
          go_ret
          exact ⟨ret_bool HN.out.symm, rfl⟩
        · have HN := Lib.hid (show ((bl s).take (k + 1)).all targB = true by rw [HTK.out, List.all_append, HA.out]; simp [targB]; omega)
          clear HTK HG
          go_wp2_with fail
          go_roundw
          case rel => exact ⟨k + 1, by go_num, hlt, HN, trivial⟩
          case measure => simp [intOf]; omega
    · have HF := Lib.hid (show targF (bl s) = decide (0 < s.size) by
        have h1 := HA.out
        rw [List.take_of_length_le (by rw [bl_length]; omega)] at h1
        unfold targF
        rw [h1, ← bl_length]
        cases bl s <;> simp)
      go_wp2_with fail
      go_ret
      exact ⟨ret_bool (by rw [HF.out]), rfl⟩
end Go.Proofs.YtemgfppclakdmaaGreatDoor.Sta

namespace Go.Proofs.YtemgfppclakdmaaGreatDoor.Sta
open Go.RowKit

theorem results_tmp4 {fn : Func} {t u v x : Tmp} (h : fn.results = #[.tmp t, .tmp u, .tmp v, .tmp x]) (tmps : Array Value) (P : Program) (w : World) :
    (results fn tmps).run P w = .ok (.tuple #[tmps.getD t undef, tmps.getD u undef, tmps.getD v undef, tmps.getD x undef]) w := by
  simp [results, h]
theorem own_turnS {W wr w' : World} {o o' : Option Nat} (hB : Below W.heap.size W wr) (ho : ∀ b, o = some b → W.heap.size ≤ b) (ht : Turn (fun b => o = some b) wr w') (ho' : ∀ b, o' = some b → o = some b ∨ wr.heap.size ≤ b) :
    Below W.heap.size W w' ∧ ∀ b, o' = some b → W.heap.size ≤ b := by
  have := hB.size
  refine ⟨hB.trans ⟨ht.os, ht.tape, ht.output, ht.size, fun b hb => ht.block b (by omega) (fun h => by have := ho b h; omega)⟩, fun b hb => ?_⟩
  rcases ho' b hb with h | h
  · exact ho b h
  · omega
def intV (n : Nat) : Value := .int .i64 (n : Int)
/-- The slice value v is the call's own, at block o (none: nil), and has the numbers ls. -/
def OwnI (w : World) (v : Value) (o : Option Nat) (ls : List Nat) : Prop := w.ownsRow 0 3 1 v ls.length (ls.map intV) ∧ v.ownBlock = o
theorem OwnI.nil (w : World) : OwnI w (.slice none 0 0) none [] := ⟨⟨by simp, .inl ⟨rfl, rfl⟩⟩, rfl⟩
theorem OwnI.kept {w w' : World} {v : Value} {o : Option Nat} {ls : List Nat} {S : Nat → Prop} (h : OwnI w v o ls) (ht : Turn S w w') (hS : ∀ k, o = some k → ¬ S k) : OwnI w' v o ls := by
  obtain ⟨⟨h1, h2⟩, h3⟩ := h
  refine ⟨⟨h1, ?_⟩, h3⟩
  rcases h2 with h2 | ⟨g, cap, cur, hv, hg, hh, r⟩
  · exact .inl h2
  · refine .inr ⟨g, cap, cur, hv, hg, ?_, r⟩
    have hlt : g < w.heap.size := (Array.getElem?_eq_some_iff.1 hh).1
    rw [ht.block g hlt (hS g (by rw [← h3, hv]; rfl))]
    exact hh
/-- Its form, and what it reads. -/
theorem OwnI.cells {w : World} {v : Value} {o : Option Nat} {ls : List Nat} (h : OwnI w v o ls) : ∃ A c, v = .slice A ls.length c ∧ (0 < ls.length → ∃ g, A = some ⟨g, 0, none⟩ ∧ ∀ (i n : Nat), ls[i]? = some n → w.cell? ⟨g, i, none⟩ = some (.int .i64 (n : Int))) := by
  obtain ⟨⟨h1, h2⟩, h3⟩ := h
  rcases h2 with ⟨hv, hn⟩ | ⟨g, cap, cur, hv, _, hh, _, _, hsz, htk⟩
  · exact ⟨none, 0, by rw [hv, hn], fun h => by omega⟩
  · refine ⟨some ⟨g, 0, none⟩, cap, hv, fun _ => ⟨g, rfl, fun i n hn => ?_⟩⟩
    rw [cell_of_row w g i cur 3 (0, 0) hh, ← Array.getElem?_toList]
    have hu : (ls.map intV)[i]? = some (intV n) := by simp [hn]
    rw [← htk, List.getElem?_take] at hu
    split at hu
    · exact hu
    · cases hu
theorem intInfo : (Tryz.prog.info? 3).map (fun i => (i.zero, i.size, i.bytes)) = some (some (.int .i64 0), 1, 8) := by kernel_rfl
theorem intParts : ∃ i, Tryz.prog.info? 3 = some i ∧ i.zero = some (.int .i64 0) ∧ i.size = 1 ∧ i.bytes = 8 := by
  obtain ⟨i, hi, h⟩ := Option.map_eq_some_iff.1 intInfo
  simp only [Prod.mk.injEq] at h
  exact ⟨i, hi, h.1, h.2.1, h.2.2⟩
/-- append(v, x), x laid down in a block of one cell. -/
theorem run_push_int (w : World) (v : Value) (o : Option Nat) (ls : List Nat) (x : Nat) (h : OwnI w v o ls) (hlen : (ls.length + 1) * 8 ≤ 140737488355328) :
    ∃ (v' : Value) (w' : World) (o' : Option Nat), (Builtin.append_ #[118, 118] 118 #[v, .slice (some ⟨w.heap.size, 0, none⟩) 1 1]).run Tryz.prog (w.alloc (.cells #[.int .i64 (x : Int)] 3)) = .ok v' w' ∧ OwnI w' v' o' (ls ++ [x]) ∧
      Turn (fun k => o = some k) w w' ∧ (∀ k, o' = some k → o = some k ∨ w.heap.size ≤ k) := by
  have t0 : Turn (fun _ => False) w (w.alloc (.cells #[.int .i64 (x : Int)] 3)) := (Turn.refl _ _).alloc _
  have hi : Is (w.alloc (.cells #[.int .i64 (x : Int)] 3)) w.heap.size 3 [intV x] := Is.made w 3 [intV x]
  obtain ⟨i, hin, hz, hsz, hby⟩ := intParts
  obtain ⟨hown, ho⟩ := h.kept t0 (fun _ _ h => h)
  obtain ⟨v', w', hrun, h2, h3, _, h5⟩ := run_append_own_at (P := Tryz.prog) (w.alloc (.cells #[.int .i64 (x : Int)] 3)) 0 118 118 3 i (.int .i64 0) 1 8 Tryz.underlying118 hin hz hsz hby rfl (by omega) v ls.length (ls.map intV) hown ⟨w.heap.size, 0, none⟩ 1 1 [intV x]
    rfl (fun j u hu => by rw [add_at, Nat.zero_add, hi.cell]; exact hu) (fun u hu => by simp at hu; subst hu; rfl) (by simp only [maxLen]; omega) (by omega) (Nat.zero_le _)
  refine ⟨v', w', v'.ownBlock, hrun, ⟨?_, rfl⟩, (t0.mono (fun _ _ h => h.elim)).trans (Turn.of_grown (S := fun k => o = some k) h3 (fun k hk => by rw [← ho]; exact hk)) (fun _ _ h => h), fun k hk => ?_⟩
  · rw [List.length_append, List.map_append]
    exact h2
  · rcases h5 with h | h
    · left; rw [← ho, ← h, hk]
    · right
      rw [h] at hk
      injection hk with hk
      simp at hk
      omega

/-- What Request tells. -/
def ReqGot (r : Option (List UInt8 × List UInt8 × Nat)) (w : World) (e : Ending) (w' : World) : Prop :=
  Below w.heap.size w w' ∧ match r with
    | none => e = .returned (.tuple #[.string ⟨#[]⟩, .string ⟨#[]⟩, .int .i64 0, .int .i64 5])
    | some (m, t, n) => e = .returned (.tuple #[.string ⟨m.toArray⟩, .string ⟨t.toArray⟩, .int .i64 (n : Int), .int .i64 0])
theorem byte_32 (c : UInt8) : (c = 32) = ((c.toNat : Int) = 32) := by
  rw [eq_iff_iff]
  constructor
  · rintro rfl
    rfl
  · intro h
    apply UInt8.toNat_inj.1
    show c.toNat = 32
    omega

theorem req_cuts {l : List UInt8} {x : List UInt8 × List UInt8 × Nat} (h : reqF l = some x) : (cutsAt 0 l).length = 2 := by
  unfold reqF at h
  split at h
  · rename_i a b hc
    rw [hc]
    rfl
  · cases h
set_option maxHeartbeats 8000000 in
set_option maxRecDepth 100000 in
theorem rreq_any (s : ByteArray) (w : World) (hs : s.size ≤ 4000000) : Calls Tryz.prog 30 #[.string s] w (ReqGot (reqF (bl s)) w) := by
  go_enter Tryz.func30, Tryz.ntmps30
  go_wp2_with fail
  go_loopw [6, 7] (fun v vi wr => ∃ (k : Nat) (o : Option Nat) (r : List Nat), vi = .int .i64 (k : Int) ∧ k ≤ s.size ∧ Hid (cutsAt 0 ((bl s).take k) = r) ∧ Hid (OwnI wr v o r) ∧ Hid (∀ b, o = some b → w.heap.size ≤ b) ∧ Hid (Below w.heap.size w wr)) (fun _ vi _ => s.size - (intOf vi).toNat)
  case atStart => exact ⟨0, none, [], rfl, Nat.zero_le _, Lib.hid rfl, Lib.hid (OwnI.nil _), Lib.hid (fun _ h => by cases h), Lib.hid (Below.refl _ _)⟩
  case round =>
    obtain ⟨k, o, r, rfl, hk, HR, HO, HOB, HB⟩ := hrel
    by_cases hlt : k < s.size
    · have HTK := Lib.hid (show cutsAt 0 ((bl s).take (k + 1)) = r ++ (if s[k] = 32 then [k] else []) by
        rw [bl_take s k hlt, cuts_snoc, HR.out, List.length_take, bl_length, Nat.min_eq_left hk, Nat.zero_add])
      have HRL := Lib.hid (show r.length ≤ k by
        have h1 := cuts_le ((bl s).take k) 0
        rw [HR.out, List.length_take] at h1
        omega)
      have e32 := byte_32 s[k]
      by_cases h32 : (s[k].toNat : Int) = 32
      · have HT := Lib.hid (show cutsAt 0 ((bl s).take (k + 1)) = r ++ [k] by rw [HTK.out, if_pos (by rw [e32]; exact h32)])
        obtain ⟨v', w', o', hrun, own', t', ho'⟩ := run_push_int wr _ o r k HO.out (by have := HRL.out; omega)
        have HR5 := Lib.hid hrun
        have OO := Lib.hid own'
        have TT := Lib.hid (own_turnS HB.out HOB.out t' ho')
        clear hrun own' t' ho' HTK e32
        go_wp2_with (at_builtin; refine append_by rfl (.tmp 21) (.tmp 23) 118 rfl _ _ v' w' rfl rfl HR5.out ?_)
        go_roundw
        case rel => exact ⟨k + 1, o', r ++ [k], by go_num, hlt, HT, OO, Lib.hid TT.out.2, Lib.hid TT.out.1⟩
        case measure => simp [intOf]; omega
      · have HT := Lib.hid (show cutsAt 0 ((bl s).take (k + 1)) = r by rw [HTK.out, if_neg (by rw [e32]; exact h32), List.append_nil])
        clear HTK e32
        go_wp2_with fail
        go_roundw
        case rel => exact ⟨k + 1, o, r, by go_num, hlt, HT, HO, HOB, HB⟩
        case measure => simp [intOf]; omega
    · have HC := Lib.hid (show cutsAt 0 (bl s) = r by rw [← HR.out, List.take_of_length_le (by rw [bl_length]; omega)])
      clear HR
      by_cases hbig : 512 < s.size
      · have i1 : (512 : Int) < (s.size : Int) := by omega
        have HN := Lib.hid (show reqF (bl s) = none by
          cases hq : reqF (bl s) with
          | none => rfl
          | some x =>
            obtain ⟨m, t, n⟩ := x
            obtain ⟨_, _, _, _, _, h⟩ := (req_iff _ _ _ _).1 hq
            rw [bl_length] at h
            omega)
        go_wp2_with fail
        (try simp only [Exit.inBlock, Exit.then]); refine bodyPost_ret (results_tmp4 rfl _ _ _) rfl ?_
        exact ⟨HB.out, by rw [HN.out]; rfl⟩
      · have i1 : ¬ (512 : Int) < (s.size : Int) := by omega
        obtain ⟨A, c, hv, hcell⟩ := HO.out.cells
        subst hv
        by_cases h2 : r.length = 2
        · obtain ⟨a, b, rfl⟩ : ∃ a b, r = [a, b] := by
            match r, h2 with
            | [a, b], _ => exact ⟨a, b, rfl⟩
          obtain ⟨m, t, r0, hl, _, _, _, ha, hb⟩ := cuts_two HC.out
          obtain ⟨g, rfl, hg⟩ := hcell (by simp)
          have y0 : wr.cell? ⟨g, 0, none⟩ = some (.int .i64 (a : Int)) := hg 0 a rfl
          have y1 : wr.cell? ⟨g, 1, none⟩ = some (.int .i64 (b : Int)) := hg 1 b rfl
          have hsz : s.size = m.length + 1 + t.length + 1 + r0.length := by rw [← bl_length, hl]; simp; omega
          obtain ⟨p1, p2, p3⟩ := parts_two m t r0
          have hM : bl (s.extract 0 a) = m := by rw [extract_bl, piece_front, hl, ha]; exact p1
          have hT : bl (s.extract (a + 1) b) = t := by rw [extract_bl]; unfold piece; rw [hl, ha, hb]; exact p2
          have hV : bl (s.extract (b + 1) s.size) = r0 := by rw [extract_bl, piece_back, hl, hb]; exact p3
          have hat0 : ∀ Wx, (Instr.indexAt 118 (.slice (some ⟨g, 0, none⟩) 2 c) (.int .i64 0)).run Tryz.prog Wx = .ok (.pointer (some ⟨g, 0, none⟩)) Wx := fun Wx => run_at 118 3 Tryz.underlying118 (by kernel_rfl) ⟨g, 0, none⟩ 2 c 0 (by omega) Wx
          have hat1 : ∀ Wx, (Instr.indexAt 118 (.slice (some ⟨g, 0, none⟩) 2 c) (.int .i64 1)).run Tryz.prog Wx = .ok (.pointer (some ⟨g, 1, none⟩)) Wx := fun Wx => run_at 118 3 Tryz.underlying118 (by kernel_rfl) ⟨g, 0, none⟩ 2 c 1 (by omega) Wx
          have CM := Lib.hid (fun X : World => (rminor_any (s.extract (b + 1) s.size) X).mono (fun _ _ h => (⟨h.1, h.2.symm⟩ : _ ∧ _)))
          have HRQ := Lib.hid (show reqF (bl s) = (match minorF r0 with | some n => if (bl s).length ≤ 512 ∧ tokF m = true ∧ a ≤ 32 ∧ targF t = true then some (m, t, n) else none | none => none) by
            unfold reqF
            rw [HC.out]
            simp only
            rw [show (bl s).take a = m by rw [hl, ha]; exact p1, show ((bl s).drop (a + 1)).take (b - (a + 1)) = t by rw [hl, ha, hb]; exact p2, show (bl s).drop (b + 1) = r0 by rw [hl, hb]; exact p3]
            all_goals (cases minorF r0 <;> rfl))
          have hLs : (bl s).length ≤ 512 := by rw [bl_length]; omega
          have HLS := Lib.hid hLs
          have hMs : (s.extract 0 a).size = a := by rw [← bl_length, hM, ha]
          clear hLs
          have hab : a + 1 ≤ b ∧ b + 1 ≤ s.size := by omega
          obtain ⟨hab1, hab2⟩ := hab
          clear hl ha hb hsz p1 p2 p3 hg hcell
          have HT := Lib.hid hT
          have HMm := Lib.hid hM
          have HVv := Lib.hid hV
          clear hT hM hV
          have wr1 : IntKind.i64.wrap ((a : Int) + 1) = (a : Int) + 1 := by rw [IntKind.wrap_i64]; omega
          have wr2 : IntKind.i64.wrap ((b : Int) + 1) = (b : Int) + 1 := by rw [IntKind.wrap_i64]; omega
          have q1 : 0 ≤ (a : Int) + 1 := by omega
          have q2 : ((a : Int) + 1).toNat = a + 1 := by omega
          have q3 : (a : Int) + 1 ≤ (b : Int) := by omega
          have q4 : 0 ≤ (b : Int) + 1 := by omega
          have q5 : ((b : Int) + 1).toNat = b + 1 := by omega
          have q6 : (b : Int) + 1 ≤ (s.size : Int) := by omega
          have q7 : (a : Int) ≤ (s.size : Int) := by omega
          have q8 : (b : Int) ≤ (s.size : Int) := by omega
          have q9 : a ≤ s.size := by omega
          have q10 : b ≤ s.size := by omega
          go_wp2_with fail
          go_quiet ((go_at_call 59; exact Calls.quiet_of_same (CM.out _)))
          have HBQ : Hid (Below w.heap.size w (wr.drewN nq)) := Lib.hid (below_drewN HB.out nq)
          clear y0 y1 hat0 hat1 wr1 wr2 q1 q2 q3 q4 q5 q6 q7 q8 CM
          generalize wr.drewN nq = wq at *
          obtain ⟨M, hMd⟩ : ∃ M, s.extract 0 a = M := ⟨_, rfl⟩
          obtain ⟨T, hTd⟩ : ∃ T, s.extract (a + 1) b = T := ⟨_, rfl⟩
          rw [hMd] at hMs HMm ⊢
          rw [hTd] at HT ⊢
          rw [HVv.out]
          have CT := Lib.hid (fun X : World => token_any M X (by unfold maxLen; omega))
          have hTs : T.size ≤ 4000000 := by rw [← hTd]; have := extract_size s (a + 1) b; omega
          have CG := Lib.hid (fun X : World => rtarget_any T X (by omega))
          rw [HMm.out] at CT
          rw [HT.out] at CG
          clear hMd hTd hTs HVv
          by_cases t1 : tokF m = true
          · rw [t1] at CT
            by_cases t2 : 32 < a
            · have HN := Lib.hid (show reqF (bl s) = none by
                rw [HRQ.out]
                split
                · rw [if_neg (by rintro ⟨_, _, h, _⟩; omega)]
                · rfl)
              have i2 : (32 : Int) < (M.size : Int) := by omega
              clear t1 t2
              go_wp2_with fail
              refine (CT.out _).mono ?_
              rintro e w5 ⟨rfl, rfl⟩
              go_wp2_with fail
              (try simp only [Exit.inBlock, Exit.then]); refine bodyPost_ret (results_tmp4 rfl _ _ _) rfl ?_
              exact ⟨HBQ.out, by rw [HN.out]; rfl⟩
            · have i2 : ¬ (32 : Int) < (M.size : Int) := by omega
              by_cases t3 : targF t = true
              · rw [t3] at CG
                cases hmi : minorF r0 with
                | none =>
                  have HN := Lib.hid (show reqF (bl s) = none by rw [HRQ.out, hmi])
                  have hmn : minI (none : Option Nat) = -1 := rfl
                  rw [hmn]
                  clear t1 t2 t3 hmi
                  go_wp2_with fail
                  refine (CT.out _).mono ?_
                  rintro e w5 ⟨rfl, rfl⟩
                  go_wp2_with fail
                  refine (CG.out _).mono ?_
                  rintro e w6 ⟨rfl, rfl⟩
                  go_wp2_with fail
                  (try simp only [Exit.inBlock, Exit.then]); refine bodyPost_ret (results_tmp4 rfl _ _ _) rfl ?_
                  exact ⟨HBQ.out, by rw [HN.out]; rfl⟩
                | some n =>
                  have HN := Lib.hid (show reqF (bl s) = some (m, t, n) by
                    rw [HRQ.out, hmi]
                    simp only
                    rw [if_pos ⟨HLS.out, t1, by omega, t3⟩])
                  have hmn : minI (some n) = (n : Int) := rfl
                  rw [hmn]
                  have i3 : ¬ (n : Int) < 0 := by omega
                  have em := HMm.out
                  have et := HT.out
                  clear t1 t2 t3 hmi
                  go_wp2_with fail
                  refine (CT.out _).mono ?_
                  rintro e w5 ⟨rfl, rfl⟩
                  go_wp2_with fail
                  refine (CG.out _).mono ?_
                  rintro e w6 ⟨rfl, rfl⟩
                  go_wp2_with fail
                  (try simp only [Exit.inBlock, Exit.then]); refine bodyPost_ret (results_tmp4 rfl _ _ _) rfl ?_
                  refine ⟨HBQ.out, ?_⟩
                  rw [HN.out, ← HMm.out, ← HT.out]
                  simp only
                  rw [mk_bl, mk_bl]
                  rfl
              · rw [Bool.not_eq_true] at t3
                have HN := Lib.hid (show reqF (bl s) = none by
                  rw [HRQ.out]
                  split
                  · rw [if_neg (by rintro ⟨_, _, _, h⟩; rw [t3] at h; cases h)]
                  · rfl)
                rw [t3] at CG
                clear t1 t2 t3
                go_wp2_with fail
                refine (CT.out _).mono ?_
                rintro e w5 ⟨rfl, rfl⟩
                go_wp2_with fail
                refine (CG.out _).mono ?_
                rintro e w6 ⟨rfl, rfl⟩
                go_wp2_with fail
                (try simp only [Exit.inBlock, Exit.then]); refine bodyPost_ret (results_tmp4 rfl _ _ _) rfl ?_
                exact ⟨HBQ.out, by rw [HN.out]; rfl⟩
          · rw [Bool.not_eq_true] at t1
            have HN := Lib.hid (show reqF (bl s) = none by
              rw [HRQ.out]
              split
              · rw [if_neg (by rintro ⟨_, h, _⟩; rw [t1] at h; cases h)]
              · rfl)
            rw [t1] at CT
            clear t1
            go_wp2_with fail
            refine (CT.out _).mono ?_
            rintro e w5 ⟨rfl, rfl⟩
            go_wp2_with fail
            (try simp only [Exit.inBlock, Exit.then]); refine bodyPost_ret (results_tmp4 rfl _ _ _) rfl ?_
            exact ⟨HBQ.out, by rw [HN.out]; rfl⟩
        · have i2 : ((r.length : Int) != 2) = true := by simp; omega
          have HN := Lib.hid (show reqF (bl s) = none by
            cases hq : reqF (bl s) with
            | none => rfl
            | some x =>
              have h3 := req_cuts hq
              rw [HC.out] at h3
              exact absurd h3 h2)
          clear hcell h2
          go_wp2_with fail
          (try simp only [Exit.inBlock, Exit.then]); refine bodyPost_ret (results_tmp4 rfl _ _ _) rfl ?_
          exact ⟨HB.out, by rw [HN.out]; rfl⟩
end Go.Proofs.YtemgfppclakdmaaGreatDoor.Sta
