/-
  The law NumTrims: its walk.
  Conditions: the two tables of Go's library that are read hold what its text lays.
-/
import Derived.Test.YtppdnkiihminaaaDoorNH
namespace Go.Proofs.YtppdnkiihminaaaDoor
open Go.RowKit

theorem lowD_lib (c : UInt8) : Lib.lowerB c = lowD c := by
  have := byte_every (fun c => decide (Lib.lowerB c = lowD c)) (by decide +kernel) c
  exact of_decide_eq_true this
/-- What a text that was read says. -/
theorem readF_parts (b : Nat) (l : List UInt8) (h : (readF b l).2 = 0) : l.all (digB b) = true ∧ valF b l ≤ Most ∧ (readF b l).1 = valF b l := by
  unfold readF at *
  by_cases h0 : l = []
  · rw [if_pos h0] at h; cases h
  · rw [if_neg h0] at h ⊢
    by_cases h1 : l.all (digB b) = true
    · rw [if_pos h1] at h ⊢
      by_cases h2 : valF b l ≤ Most
      · rw [if_pos h2]; exact ⟨h1, h2, rfl⟩
      · rw [if_neg h2] at h; cases h
    · rw [if_neg h1] at h; cases h
theorem low_all (b : Nat) (hb : b ≤ 10) : ∀ l : List UInt8, l.all (digB b) = true → l.map lowD = l
  | [], _ => rfl
  | c :: l, h => by
    simp only [List.all_cons, Bool.and_eq_true, digB, decide_eq_true_eq] at h
    rw [List.map_cons, low_all b hb l (by simpa [digB] using h.2), lowD_ten c (by omega)]
/-- What is written of what was read: the text without noughts ahead, or a nought. -/
theorem trim_ten (l : List UInt8) (h : (readF 10 l).2 = 0) : writeF 10 (readF 10 l).1 = (if bareF l = [] then [48] else bareF l, 0) := by
  obtain ⟨h1, h2, h3⟩ := readF_parts 10 l h
  rw [h3, writeF_ok 10 _ h2, numF_back 10 (by omega) (by omega) l h1]
  split
  · rfl
  · rw [low_all 10 (by omega) _ (bareF_all 10 l h1)]
theorem trim_hex (l : List UInt8) (h : (readF 16 l).2 = 0) : writeF 16 (readF 16 l).1 = (if bareF l = [] then [48] else (bareF l).map lowD, 0) := by
  obtain ⟨h1, h2, h3⟩ := readF_parts 16 l h
  rw [h3, writeF_ok 16 _ h2, numF_back 16 (by omega) (by omega) l h1]
theorem bare_low (l : List UInt8) (h : (readF 16 l).2 = 0) : ∀ (j : Nat) (b : UInt8), (bareF l)[j]? = some b → b.toNat < 128 := by
  obtain ⟨h1, _, _⟩ := readF_parts 16 l h
  intro j c hc
  have := List.all_eq_true.1 (bareF_all 16 l h1) c (List.mem_of_getElem? hc)
  rcases Nat.lt_or_ge c.toNat 128 with h' | h'
  · exact h'
  · rw [digB, worth_high c h'] at this
    simp at this
theorem bare_length (l : List UInt8) : (bareF l).length ≤ l.length := (List.dropWhile_suffix _).length_le
theorem empty_mk (l : List UInt8) (h : ¬ l = []) : (⟨l.toArray⟩ : ByteArray).toList.isEmpty = false := by
  rw [Lib.toList_data]
  cases l with
  | nil => exact absurd rfl h
  | cons c l => rfl
theorem none_mk (l : List UInt8) (h : l = []) : (⟨l.toArray⟩ : ByteArray).toList = [] := by
  rw [Lib.toList_data, h]
theorem trimleft_any (s : ByteArray) (w : World) : Calls Tryd.prog 19 #[.string s, .string ⟨#[48]⟩] w fun e w' => e = .returned (.string ⟨(bareF (bl s)).toArray⟩) ∧ w' = w := Tryd.strings_TrimLeft_one s 48 (by decide) w
theorem tolower_any (l : List UInt8) (hl : l.length ≤ 140737488355328) (h : ∀ (j : Nat) (b : UInt8), l[j]? = some b → b.toNat < 128) (w : World) : Calls Tryd.prog 20 #[.string ⟨l.toArray⟩] w fun e w' => e = .returned (.string ⟨(l.map lowD).toArray⟩) ∧ Below w.heap.size w w' := by
  have := Tryd.strings_ToLower_ascii ⟨l.toArray⟩ w (by rw [← bl_length, bl_mk]; exact hl) (by simpa using h)
  have e : Lib.toLowerA (⟨l.toArray⟩ : ByteArray).data.toList = l.map lowD := by
    unfold Lib.toLowerA
    exact List.map_congr_left (fun c _ => lowD_lib c)
  rw [e] at this
  exact this

set_option maxHeartbeats 8000000 in
theorem trims_true (s : ByteArray) (w : World) (hs : s.size ≤ 140737488355328) (ht : Tabs w) : Calls Tryd.prog 6 #[.string s] w fun e w' => e = .returned (.bool true) ∧ Below w.heap.size w w' := by
  have HT := Lib.hid ht
  have HS := Lib.hid hs
  clear ht hs
  have CD := Lib.hid (fun W : World => decimal_any s W)
  have CH := Lib.hid (fun W : World => hex_any s W)
  have CT := Lib.hid (fun W : World => trimleft_any s W)
  go_enter Tryd.func6, Tryd.ntmps6
  go_wp2_with fail
  refine (CD.out _).mono ?_
  rintro e w1 ⟨rfl, b1⟩
  have B1 := Lib.hid b1
  clear b1
  by_cases hd : (readF 10 (bl s)).2 = 0
  · have HW := Lib.hid (trim_ten (bl s) hd)
    have hd1 : ((readF 10 (bl s)).2 : Int) = 0 := by omega
    generalize (readF 10 (bl s)).1 = u at *
    have CV := Lib.hid (fun (W : World) (h : Tabs W) => text_any u W h.1)
    rw [HW.out] at CV
    clear HW hd
    by_cases hb : bareF (bl s) = []
    · rw [if_pos hb] at CV
      have e0 := none_mk (bareF (bl s)) hb
      clear hb
      go_wp2_with fail
      refine (CT.out _).mono ?_
      rintro e w2 ⟨rfl, h2⟩
      subst h2
      go_wp2_with fail
      refine (CV.out _ (HT.out.below B1.out)).mono ?_
      rintro e w3 ⟨rfl, b3⟩
      have B3 := Lib.hid (B1.out.trans (b3.mono B1.out.size))
      clear b3 B1 hd1 e0 CV
      go_wp2_with fail
      refine (CH.out _).mono ?_
      rintro e w5 ⟨rfl, b5⟩
      have B5 := Lib.hid (B3.out.trans (b5.mono B3.out.size))
      clear b5 B3
      by_cases hh : (readF 16 (bl s)).2 = 0
      · have HW := Lib.hid (trim_hex (bl s) hh)
        have HLO := Lib.hid (bare_low (bl s) hh)
        have HLE := Lib.hid (bare_length (bl s))
        have hh1 : ((readF 16 (bl s)).2 : Int) = 0 := by omega
        generalize (readF 16 (bl s)).1 = v at *
        have CW := Lib.hid (fun (W : World) (h : Tabs W) => hextext_any v W h.2)
        rw [HW.out] at CW
        clear HW hh
        by_cases hb : bareF (bl s) = []
        · rw [if_pos hb] at CW
          have CL := Lib.hid (tolower_any (bareF (bl s)) (by have := HLE.out; rw [bl_length] at this; have := HS.out; omega) HLO.out)
          have e1 := none_mk ((bareF (bl s)).map lowD) (by rw [hb]; rfl)
          clear hb
          generalize (bareF (bl s)).map lowD = ml at *
          go_wp2_with fail
          refine (CT.out _).mono ?_
          rintro e w6 ⟨rfl, h6⟩
          subst h6
          go_wp2_with fail
          refine (CL.out _).mono ?_
          rintro e w7 ⟨rfl, b7⟩
          have B7 := Lib.hid (B5.out.trans (b7.mono B5.out.size))
          clear b7 B5
          go_wp2_with fail
          refine (CW.out _ (HT.out.below B7.out)).mono ?_
          rintro e w8 ⟨rfl, b8⟩
          have B8 := Lib.hid (B7.out.trans (b8.mono B7.out.size))
          clear b8 B7
          go_wp2_with fail
          refine (awake_any _ (HT.out.below B8.out)).mono ?_
          rintro e w9 ⟨rfl, b9⟩
          have B9 := Lib.hid (B8.out.trans (b9.mono B8.out.size))
          clear b9 B8
          go_wp2_with fail
          go_ret
          exact ⟨rfl, B9.out⟩
        · rw [if_neg hb] at CW
          have CL := Lib.hid (tolower_any (bareF (bl s)) (by have := HLE.out; rw [bl_length] at this; have := HS.out; omega) HLO.out)
          have e1 : ¬ (bareF (bl s)).map lowD = [] := by simpa using hb
          have e2 : ((bareF (bl s)).map lowD).isEmpty = false := by simpa using hb
          clear hb
          generalize (bareF (bl s)).map lowD = ml at *
          go_wp2_with fail
          refine (CT.out _).mono ?_
          rintro e w6 ⟨rfl, h6⟩
          subst h6
          go_wp2_with fail
          refine (CL.out _).mono ?_
          rintro e w7 ⟨rfl, b7⟩
          have B7 := Lib.hid (B5.out.trans (b7.mono B5.out.size))
          clear b7 B5
          go_wp2_with fail
          refine (CW.out _ (HT.out.below B7.out)).mono ?_
          rintro e w8 ⟨rfl, b8⟩
          have B8 := Lib.hid (B7.out.trans (b8.mono B7.out.size))
          clear b8 B7
          go_wp2_with fail
          refine (awake_any _ (HT.out.below B8.out)).mono ?_
          rintro e w9 ⟨rfl, b9⟩
          have B9 := Lib.hid (B8.out.trans (b9.mono B8.out.size))
          clear b9 B8
          go_wp2_with fail
          go_ret
          exact ⟨rfl, B9.out⟩
      · have hh1 : (((readF 16 (bl s)).2 : Int) == 0) = false := beq_false_of_ne (by omega)
        generalize readF 16 (bl s) = q at *
        go_wp2_with fail
        refine (awake_any _ (HT.out.below B5.out)).mono ?_
        rintro e w9 ⟨rfl, b9⟩
        have B9 := Lib.hid (B5.out.trans (b9.mono B5.out.size))
        clear b9 B5
        go_wp2_with fail
        go_ret
        exact ⟨rfl, B9.out⟩
    · rw [if_neg hb] at CV
      have e0 : (bareF (bl s)).isEmpty = false := by simpa using hb
      go_wp2_with fail
      refine (CT.out _).mono ?_
      rintro e w2 ⟨rfl, h2⟩
      subst h2
      go_wp2_with fail
      refine (CV.out _ (HT.out.below B1.out)).mono ?_
      rintro e w3 ⟨rfl, b3⟩
      have B3 := Lib.hid (B1.out.trans (b3.mono B1.out.size))
      clear b3 B1 hd1 CV hb e0
      go_wp2_with fail
      refine (CH.out _).mono ?_
      rintro e w5 ⟨rfl, b5⟩
      have B5 := Lib.hid (B3.out.trans (b5.mono B3.out.size))
      clear b5 B3
      by_cases hh : (readF 16 (bl s)).2 = 0
      · have HW := Lib.hid (trim_hex (bl s) hh)
        have HLO := Lib.hid (bare_low (bl s) hh)
        have HLE := Lib.hid (bare_length (bl s))
        have hh1 : ((readF 16 (bl s)).2 : Int) = 0 := by omega
        generalize (readF 16 (bl s)).1 = v at *
        have CW := Lib.hid (fun (W : World) (h : Tabs W) => hextext_any v W h.2)
        rw [HW.out] at CW
        clear HW hh
        by_cases hb : bareF (bl s) = []
        · rw [if_pos hb] at CW
          have CL := Lib.hid (tolower_any (bareF (bl s)) (by have := HLE.out; rw [bl_length] at this; have := HS.out; omega) HLO.out)
          have e1 := none_mk ((bareF (bl s)).map lowD) (by rw [hb]; rfl)
          clear hb
          generalize (bareF (bl s)).map lowD = ml at *
          go_wp2_with fail
          refine (CT.out _).mono ?_
          rintro e w6 ⟨rfl, h6⟩
          subst h6
          go_wp2_with fail
          refine (CL.out _).mono ?_
          rintro e w7 ⟨rfl, b7⟩
          have B7 := Lib.hid (B5.out.trans (b7.mono B5.out.size))
          clear b7 B5
          go_wp2_with fail
          refine (CW.out _ (HT.out.below B7.out)).mono ?_
          rintro e w8 ⟨rfl, b8⟩
          have B8 := Lib.hid (B7.out.trans (b8.mono B7.out.size))
          clear b8 B7
          go_wp2_with fail
          refine (awake_any _ (HT.out.below B8.out)).mono ?_
          rintro e w9 ⟨rfl, b9⟩
          have B9 := Lib.hid (B8.out.trans (b9.mono B8.out.size))
          clear b9 B8
          go_wp2_with fail
          go_ret
          exact ⟨rfl, B9.out⟩
        · rw [if_neg hb] at CW
          have CL := Lib.hid (tolower_any (bareF (bl s)) (by have := HLE.out; rw [bl_length] at this; have := HS.out; omega) HLO.out)
          have e1 : ¬ (bareF (bl s)).map lowD = [] := by simpa using hb
          have e2 : ((bareF (bl s)).map lowD).isEmpty = false := by simpa using hb
          clear hb
          generalize (bareF (bl s)).map lowD = ml at *
          go_wp2_with fail
          refine (CT.out _).mono ?_
          rintro e w6 ⟨rfl, h6⟩
          subst h6
          go_wp2_with fail
          refine (CL.out _).mono ?_
          rintro e w7 ⟨rfl, b7⟩
          have B7 := Lib.hid (B5.out.trans (b7.mono B5.out.size))
          clear b7 B5
          go_wp2_with fail
          refine (CW.out _ (HT.out.below B7.out)).mono ?_
          rintro e w8 ⟨rfl, b8⟩
          have B8 := Lib.hid (B7.out.trans (b8.mono B7.out.size))
          clear b8 B7
          go_wp2_with fail
          refine (awake_any _ (HT.out.below B8.out)).mono ?_
          rintro e w9 ⟨rfl, b9⟩
          have B9 := Lib.hid (B8.out.trans (b9.mono B8.out.size))
          clear b9 B8
          go_wp2_with fail
          go_ret
          exact ⟨rfl, B9.out⟩
      · have hh1 : (((readF 16 (bl s)).2 : Int) == 0) = false := beq_false_of_ne (by omega)
        generalize readF 16 (bl s) = q at *
        go_wp2_with fail
        refine (awake_any _ (HT.out.below B5.out)).mono ?_
        rintro e w9 ⟨rfl, b9⟩
        have B9 := Lib.hid (B5.out.trans (b9.mono B5.out.size))
        clear b9 B5
        go_wp2_with fail
        go_ret
        exact ⟨rfl, B9.out⟩
  · have hd1 : (((readF 10 (bl s)).2 : Int) == 0) = false := beq_false_of_ne (by omega)
    generalize readF 10 (bl s) = p at *
    go_wp2_with fail
    refine (CH.out _).mono ?_
    rintro e w5 ⟨rfl, b5⟩
    have B5 := Lib.hid (B1.out.trans (b5.mono B1.out.size))
    clear b5 B1
    by_cases hh : (readF 16 (bl s)).2 = 0
    · have HW := Lib.hid (trim_hex (bl s) hh)
      have HLO := Lib.hid (bare_low (bl s) hh)
      have HLE := Lib.hid (bare_length (bl s))
      have hh1 : ((readF 16 (bl s)).2 : Int) = 0 := by omega
      generalize (readF 16 (bl s)).1 = v at *
      have CW := Lib.hid (fun (W : World) (h : Tabs W) => hextext_any v W h.2)
      rw [HW.out] at CW
      clear HW hh
      by_cases hb : bareF (bl s) = []
      · rw [if_pos hb] at CW
        have CL := Lib.hid (tolower_any (bareF (bl s)) (by have := HLE.out; rw [bl_length] at this; have := HS.out; omega) HLO.out)
        have e1 := none_mk ((bareF (bl s)).map lowD) (by rw [hb]; rfl)
        clear hb
        generalize (bareF (bl s)).map lowD = ml at *
        go_wp2_with fail
        refine (CT.out _).mono ?_
        rintro e w6 ⟨rfl, h6⟩
        subst h6
        go_wp2_with fail
        refine (CL.out _).mono ?_
        rintro e w7 ⟨rfl, b7⟩
        have B7 := Lib.hid (B5.out.trans (b7.mono B5.out.size))
        clear b7 B5
        go_wp2_with fail
        refine (CW.out _ (HT.out.below B7.out)).mono ?_
        rintro e w8 ⟨rfl, b8⟩
        have B8 := Lib.hid (B7.out.trans (b8.mono B7.out.size))
        clear b8 B7
        go_wp2_with fail
        refine (awake_any _ (HT.out.below B8.out)).mono ?_
        rintro e w9 ⟨rfl, b9⟩
        have B9 := Lib.hid (B8.out.trans (b9.mono B8.out.size))
        clear b9 B8
        go_wp2_with fail
        go_ret
        exact ⟨rfl, B9.out⟩
      · rw [if_neg hb] at CW
        have CL := Lib.hid (tolower_any (bareF (bl s)) (by have := HLE.out; rw [bl_length] at this; have := HS.out; omega) HLO.out)
        have e1 : ¬ (bareF (bl s)).map lowD = [] := by simpa using hb
        have e2 : ((bareF (bl s)).map lowD).isEmpty = false := by simpa using hb
        clear hb
        generalize (bareF (bl s)).map lowD = ml at *
        go_wp2_with fail
        refine (CT.out _).mono ?_
        rintro e w6 ⟨rfl, h6⟩
        subst h6
        go_wp2_with fail
        refine (CL.out _).mono ?_
        rintro e w7 ⟨rfl, b7⟩
        have B7 := Lib.hid (B5.out.trans (b7.mono B5.out.size))
        clear b7 B5
        go_wp2_with fail
        refine (CW.out _ (HT.out.below B7.out)).mono ?_
        rintro e w8 ⟨rfl, b8⟩
        have B8 := Lib.hid (B7.out.trans (b8.mono B7.out.size))
        clear b8 B7
        go_wp2_with fail
        refine (awake_any _ (HT.out.below B8.out)).mono ?_
        rintro e w9 ⟨rfl, b9⟩
        have B9 := Lib.hid (B8.out.trans (b9.mono B8.out.size))
        clear b9 B8
        go_wp2_with fail
        go_ret
        exact ⟨rfl, B9.out⟩
    · have hh1 : (((readF 16 (bl s)).2 : Int) == 0) = false := beq_false_of_ne (by omega)
      generalize readF 16 (bl s) = q at *
      go_wp2_with fail
      refine (awake_any _ (HT.out.below B5.out)).mono ?_
      rintro e w9 ⟨rfl, b9⟩
      have B9 := Lib.hid (B5.out.trans (b9.mono B5.out.size))
      clear b9 B5
      go_wp2_with fail
      go_ret
      exact ⟨rfl, B9.out⟩
end Go.Proofs.YtppdnkiihminaaaDoor
