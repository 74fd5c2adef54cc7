/-
  Package frame's byCodings, byLengths.
  Conditions: those that each theorem names.
-/
import Derived.Test.YtcpohdejdiljnaaDoorFD
namespace Go.Proofs.YtcpohdejdiljnaaDoor
open Go.RowKit

theorem SrcS.fresh {w : World} {P S : Nat → Prop} {A : Option Addr} {ls : List (List UInt8)} (h : SrcS w P A ls) (hS : ∀ k, k < w.heap.size → ¬ S k) : SrcS w (fun b => ¬ S b) A ls := fun h0 => by
  obtain ⟨ad, h1, _, h3, h4⟩ := h h0
  exact ⟨ad, h1, hS _ h3, h3, h4⟩

/-- What stands in the closure's cells. -/
def InvC (minor : Int) (gc gs : Nat) (xs : List (List UInt8)) (X : World) : Prop := Is X gc 3 [.int .i64 (xs.length : Int)] ∧ Is X gs 4 [.bool ((minor == 1) && xs.all isChk)]
def InvL (gf gc gs : Nat) (xs : List (List UInt8)) (X : World) : Prop := Is X gc 3 [.int .i64 (xs.length : Int)] ∧ Is X gf 77 (saidL (firstF xs)) ∧ Is X gs 4 [.bool (sureL xs)]

theorem codings_each {P : Nat → Prop} (minor : Int) (w : World) (A : Option Addr) (vs : List (List UInt8)) (n c : Nat) (hn : vs.length = n) (hv : SrcS w P A vs) (hslim : SlimS vs) (hmax : n ≤ 1000000000000) (hlen : (elsF vs).length ≤ 1000000000000) :
    Calls Tryd.prog 43 #[.slice A n c, .func (.func 44) #[] #[.pointer (some ⟨w.heap.size, 0, none⟩), .pointer (some ⟨w.heap.size + 1, 0, none⟩)]] ((w.alloc (.cells #[.int .i64 0] 3)).alloc (.cells #[.bool (minor == 1)] 4)) fun e w' =>
      e = .returned (.tuple #[]) ∧ InvC minor w.heap.size (w.heap.size + 1) (elsF vs) w' ∧ Below w.heap.size w w' := by
  have ic := (Is.made w 3 [.int .i64 0]).alloc (.cells #[.bool (minor == 1)] 4)
  have ib := Is.made (w.alloc (.cells #[.int .i64 0] 3)) 4 [.bool (minor == 1)]
  rw [show (w.alloc (.cells #[.int .i64 0] 3)).heap.size = w.heap.size + 1 from by simp] at ib
  have b0 := ((Below.refl w.heap.size w).alloc (Nat.le_refl _) (.cells #[.int .i64 0] 3)).alloc (by simp) (.cells #[.bool (minor == 1)] 4)
  have hsz : ((w.alloc (.cells #[.int .i64 0] 3)).alloc (.cells #[.bool (minor == 1)] 4)).heap.size = w.heap.size + 2 := by simp
  refine (each_cod (.pointer (some ⟨w.heap.size, 0, none⟩)) (.pointer (some ⟨w.heap.size + 1, 0, none⟩)) (fun k => k = w.heap.size ∨ k = w.heap.size + 1) (InvC minor w.heap.size (w.heap.size + 1)) _ A vs n c hn
    (fun h0 => by
      obtain ⟨ad, h1, h2, h3, h4⟩ := hv.kept (Turn.of_below (S := fun _ => False) b0) (fun _ _ h => h) h0
      obtain ⟨ad', h1', _, h3', _⟩ := hv h0
      rw [h1] at h1'
      obtain rfl := Option.some.inj h1'
      exact ⟨ad, h1, by omega, h3, h4⟩) (fun k hk => by rw [hsz]; omega) hslim hmax hlen ⟨ic, by simpa using ib⟩ ?_ ?_).mono ?_
  · intro xs X X' h hb
    exact ⟨h.1.kept (Turn.of_below (S := fun _ => False) hb) (fun h => h), h.2.kept (Turn.of_below (S := fun _ => False) hb) (fun h => h)⟩
  · intro xs x X h hx
    refine (cod1_any ⟨x.toArray⟩ w.heap.size (w.heap.size + 1) xs.length _ X h.1 h.2 hx).mono ?_
    rintro e w' ⟨rfl, h1, h2, h3⟩
    rw [bl_mk] at h2
    exact ⟨rfl, ⟨by simpa using h1, by simpa [Bool.and_assoc] using h2⟩, h3⟩
  · rintro e w' ⟨rfl, h1, h2⟩
    exact ⟨rfl, h1, ((Turn.of_below b0).trans h2 (fun _ _ h => h)).below (fun k hk hs => by rcases hs with hs | hs <;> omega)⟩
theorem codF_is (minor : Int) (cs : List (List UInt8)) : codF minor cs = if cs.length = 1 ∧ ((minor == 1) && cs.all isChk) = true then (2, 0, 0) else (0, 0, 22) := by
  unfold codF
  simp only [Bool.and_eq_true, beq_iff_eq]

set_option maxHeartbeats 4000000 in
set_option maxRecDepth 100000 in
theorem codings_any {P : Nat → Prop} (minor : Int) (w : World) (A : Option Addr) (vs : List (List UInt8)) (n c : Nat) (hn : vs.length = n) (hv : SrcS w P A vs) (hslim : SlimS vs) (hmax : n ≤ 1000000000000) (hlen : (elsF vs).length ≤ 1000000000000) :
    Calls Tryd.prog 23 #[.int .i64 minor, .slice A n c] w (Tells (codF minor (elsF vs)) w) := by
  have CE := Lib.hid (codings_each minor w A vs n c hn hv hslim hmax hlen)
  have HQ := Lib.hid (codF_is minor (elsF vs))
  clear hn hv hslim
  unfold InvC at CE
  generalize elsF vs = cs at *
  have h : ∀ R : Kd, Hid (codF minor cs = R) → codF minor cs = R := fun _ h => h.out
  generalize ((minor == 1) && cs.all isChk) = q at *
  by_cases hm : (cs.length : Int) = 1
  · have e1 : ((cs.length : Int) != 1) = false := by simpa using hm
    have hm' : cs.length = 1 := by omega
    cases q with
    | true =>
      have HR := Lib.hid (HQ.out.trans (if_pos ⟨hm', rfl⟩))
      rw [HR.out]
      clear HQ HR hm hm' h
      generalize cs.length = m at *
      go_enter Tryd.func23, Tryd.ntmps23
      go_wp2_with fail
      refine CE.out.mono ?_
      rintro e w1 ⟨rfl, ⟨i1, i2⟩, b1⟩
      have B1 := Lib.hid b1
      have c1 : w1.cell? ⟨w.heap.size, 0, none⟩ = some (.int .i64 (m : Int)) := i1.cell 0
      have c2 : w1.cell? ⟨w.heap.size + 1, 0, none⟩ = some (.bool true) := i2.cell 0
      clear i1 i2 b1
      go_wp2_with fail
      go_ret3
      exact ⟨rfl, B1.out⟩
    | false =>
      have HR := Lib.hid (HQ.out.trans (if_neg (fun h => by cases h.2)))
      rw [HR.out]
      clear HQ HR hm hm' h
      generalize cs.length = m at *
      go_enter Tryd.func23, Tryd.ntmps23
      go_wp2_with fail
      refine CE.out.mono ?_
      rintro e w1 ⟨rfl, ⟨i1, i2⟩, b1⟩
      have B1 := Lib.hid b1
      have c1 : w1.cell? ⟨w.heap.size, 0, none⟩ = some (.int .i64 (m : Int)) := i1.cell 0
      have c2 : w1.cell? ⟨w.heap.size + 1, 0, none⟩ = some (.bool false) := i2.cell 0
      clear i1 i2 b1
      go_wp2_with fail
      go_ret3
      exact ⟨rfl, B1.out⟩
  · have e1 : ((cs.length : Int) != 1) = true := by simpa using hm
    have hm' : ¬ cs.length = 1 := by omega
    have HR := Lib.hid (HQ.out.trans (if_neg (fun h => hm' h.1)))
    rw [HR.out]
    clear HQ HR hm hm' h
    generalize cs.length = m at *
    go_enter Tryd.func23, Tryd.ntmps23
    go_wp2_with fail
    refine CE.out.mono ?_
    rintro e w1 ⟨rfl, ⟨i1, i2⟩, b1⟩
    have B1 := Lib.hid b1
    have c1 : w1.cell? ⟨w.heap.size, 0, none⟩ = some (.int .i64 (m : Int)) := i1.cell 0
    clear i1 i2 b1
    go_wp2_with fail
    go_ret3
    exact ⟨rfl, B1.out⟩

theorem lengths_each {P : Nat → Prop} (w : World) (A : Option Addr) (vs : List (List UInt8)) (n c : Nat) (hn : vs.length = n) (hv : SrcS w P A vs) (hslim : SlimS vs) (hmax : n ≤ 1000000000000) (hlen : (elsF vs).length ≤ 1000000000000) :
    Calls Tryd.prog 43 #[.slice A n c, .func (.func 45) #[] #[.pointer (some ⟨w.heap.size + 1, 0, none⟩), .pointer (some ⟨w.heap.size, 0, none⟩), .pointer (some ⟨w.heap.size + 1 + 1, 0, none⟩)]]
      (((w.alloc (.cells #[.int .u64 0, .string ⟨#[]⟩, .int .i64 0] 77)).alloc (.cells #[.int .i64 0] 3)).alloc (.cells #[.bool true] 4)) fun e w' =>
      e = .returned (.tuple #[]) ∧ InvL w.heap.size (w.heap.size + 1) (w.heap.size + 1 + 1) (elsF vs) w' ∧ Below w.heap.size w w' := by
  have jf := ((Is.made w 77 [.int .u64 0, .string ⟨#[]⟩, .int .i64 0]).alloc (.cells #[.int .i64 0] 3)).alloc (.cells #[.bool true] 4)
  have jc := (Is.made (w.alloc (.cells #[.int .u64 0, .string ⟨#[]⟩, .int .i64 0] 77)) 3 [.int .i64 0]).alloc (.cells #[.bool true] 4)
  rw [show (w.alloc (.cells #[.int .u64 0, .string ⟨#[]⟩, .int .i64 0] 77)).heap.size = w.heap.size + 1 from by simp] at jc
  have jb := Is.made ((w.alloc (.cells #[.int .u64 0, .string ⟨#[]⟩, .int .i64 0] 77)).alloc (.cells #[.int .i64 0] 3)) 4 [.bool true]
  rw [show ((w.alloc (.cells #[.int .u64 0, .string ⟨#[]⟩, .int .i64 0] 77)).alloc (.cells #[.int .i64 0] 3)).heap.size = w.heap.size + 1 + 1 from by simp] at jb
  have b0 := (((Below.refl w.heap.size w).alloc (Nat.le_refl _) (.cells #[.int .u64 0, .string ⟨#[]⟩, .int .i64 0] 77)).alloc (by simp) (.cells #[.int .i64 0] 3)).alloc (by simp; omega) (.cells #[.bool true] 4)
  have hsz : (((w.alloc (.cells #[.int .u64 0, .string ⟨#[]⟩, .int .i64 0] 77)).alloc (.cells #[.int .i64 0] 3)).alloc (.cells #[.bool true] 4)).heap.size = w.heap.size + 3 := by simp
  refine (each_len (.pointer (some ⟨w.heap.size + 1, 0, none⟩)) (.pointer (some ⟨w.heap.size, 0, none⟩)) (.pointer (some ⟨w.heap.size + 1 + 1, 0, none⟩)) (fun k => k = w.heap.size + 1 ∨ k = w.heap.size ∨ k = w.heap.size + 1 + 1) (InvL w.heap.size (w.heap.size + 1) (w.heap.size + 1 + 1)) _ A vs n c hn
    (fun h0 => by
      obtain ⟨ad, h1, h2, h3, h4⟩ := hv.kept (Turn.of_below (S := fun _ => False) b0) (fun _ _ h => h) h0
      obtain ⟨ad', h1', _, h3', _⟩ := hv h0
      rw [h1] at h1'
      obtain rfl := Option.some.inj h1'
      exact ⟨ad, h1, by omega, h3, h4⟩) (fun k hk => by rw [hsz]; omega) hslim hmax hlen ⟨jc, jf, jb⟩ ?_ ?_).mono ?_
  · intro xs X X' h hb
    exact ⟨h.1.kept (Turn.of_below (S := fun _ => False) hb) (fun h => h), h.2.1.kept (Turn.of_below (S := fun _ => False) hb) (fun h => h), h.2.2.kept (Turn.of_below (S := fun _ => False) hb) (fun h => h)⟩
  · intro xs x X h hx
    refine (len1_any ⟨x.toArray⟩ (w.heap.size + 1) w.heap.size (w.heap.size + 1 + 1) xs.length (firstF xs) _ X h.1 h.2.1 h.2.2 hx).mono ?_
    rintro e w' ⟨rfl, h1, h2, h3, h4⟩
    rw [bl_mk] at h2 h3
    have hf : nextF xs.length (firstF xs) (rdF x) = firstF (xs ++ [x]) := (firstF_snoc xs x).symm
    rw [hf] at h2 h3
    rw [← sureL_snoc] at h3
    exact ⟨rfl, ⟨by simpa using h1, h2, h3⟩, h4⟩
  · rintro e w' ⟨rfl, h1, h2⟩
    exact ⟨rfl, h1, ((Turn.of_below b0).trans h2 (fun _ _ h => h)).below (fun k hk hs => by rcases hs with hs | hs | hs <;> omega)⟩

set_option maxHeartbeats 4000000 in
set_option maxRecDepth 100000 in
theorem lengths_any {P : Nat → Prop} (w : World) (A : Option Addr) (vs : List (List UInt8)) (n c : Nat) (hn : vs.length = n) (hv : SrcS w P A vs) (hslim : SlimS vs) (hmax : n ≤ 1000000000000) (hlen : (elsF vs).length ≤ 1000000000000) :
    Calls Tryd.prog 24 #[.slice A n c] w (Tells (lenF (elsF vs)) w) := by
  have CE := Lib.hid (lengths_each w A vs n c hn hv hslim hmax hlen)
  have HQ := Lib.hid (show lenF (elsF vs) = if (elsF vs).length = 0 ∨ sureL (elsF vs) = false then (0, 0, 22) else if (firstF (elsF vs)).2.2 = 3 ∨ 4096 < (firstF (elsF vs)).1 then (0, 0, 21) else (1, (firstF (elsF vs)).1, 0) from rfl)
  clear hn hv hslim
  unfold InvL at CE
  generalize elsF vs = xs at *
  generalize sureL xs = q at *
  generalize firstF xs = p at *
  obtain ⟨fn, ft, fe⟩ := p
  unfold saidL at CE
  simp only at CE HQ
  generalize lenF xs = R at *
  by_cases hm : (xs.length : Int) = 0
  · have e1 : ((xs.length : Int) == 0) = true := by simpa using hm
    have hm' : xs.length = 0 := by omega
    have HR := Lib.hid (HQ.out.trans (if_pos (.inl hm')))
    rw [HR.out]
    clear HQ HR hm hm'
    generalize xs.length = m at *
    go_enter Tryd.func24, Tryd.ntmps24
    go_wp2_with fail
    refine CE.out.mono ?_
    rintro e w1 ⟨rfl, ⟨i1, i2, i3⟩, b1⟩
    have B1 := Lib.hid b1
    have c1 : w1.cell? ⟨w.heap.size + 1, 0, none⟩ = some (.int .i64 (m : Int)) := i1.cell 0
    clear i1 i2 i3 b1
    go_wp2_with fail
    go_ret3
    exact ⟨rfl, B1.out⟩
  have e1 : ((xs.length : Int) == 0) = false := by simpa using hm
  have hm' : ¬ xs.length = 0 := by omega
  cases q with
  | false =>
    · have HR := Lib.hid (HQ.out.trans (if_pos (.inr rfl)))
      rw [HR.out]
      clear HQ HR hm hm'
      generalize xs.length = m at *
      go_enter Tryd.func24, Tryd.ntmps24
      go_wp2_with fail
      refine CE.out.mono ?_
      rintro e w1 ⟨rfl, ⟨i1, i2, i3⟩, b1⟩
      have B1 := Lib.hid b1
      have c1 : w1.cell? ⟨w.heap.size + 1, 0, none⟩ = some (.int .i64 (m : Int)) := i1.cell 0
      have c2 : w1.cell? ⟨w.heap.size + 1 + 1, 0, none⟩ = some (.bool false) := i3.cell 0
      clear i1 i2 i3 b1
      go_wp2_with fail
      go_ret3
      exact ⟨rfl, B1.out⟩
  | true =>
    by_cases h3 : (fe : Int) = 3
    · have e3 : ((fe : Int) == 3) = true := by simpa using h3
      have h3' : fe = 3 := by omega
      have HR := Lib.hid (HQ.out.trans ((if_neg (fun h => h.elim hm' (fun h => by cases h))).trans (if_pos (.inl h3'))))
      rw [HR.out]
      clear HQ HR hm hm' h3 h3'
      generalize xs.length = m at *
      go_enter Tryd.func24, Tryd.ntmps24
      go_wp2_with fail
      refine CE.out.mono ?_
      rintro e w1 ⟨rfl, ⟨i1, i2, i3⟩, b1⟩
      have B1 := Lib.hid b1
      have c1 : w1.cell? ⟨w.heap.size + 1, 0, none⟩ = some (.int .i64 (m : Int)) := i1.cell 0
      have c2 : w1.cell? ⟨w.heap.size + 1 + 1, 0, none⟩ = some (.bool true) := i3.cell 0
      have c3 : w1.cell? ⟨w.heap.size, 0, none⟩ = some (.int .u64 (fn : Int)) := i2.cell 0
      have c4 : w1.cell? ⟨w.heap.size, 2, none⟩ = some (.int .i64 (fe : Int)) := i2.cell 2
      clear i1 i2 i3 b1
      go_wp2_with fail
      go_ret3
      exact ⟨rfl, B1.out⟩
    have e3 : ((fe : Int) == 3) = false := by simpa using h3
    have h3' : ¬ fe = 3 := by omega
    by_cases h4 : (4096 : Int) < (fn : Int)
    · have e4 : decide ((4096 : Int) < (fn : Int)) = true := by simpa using h4
      have HR := Lib.hid (HQ.out.trans ((if_neg (fun h => h.elim hm' (fun h => by cases h))).trans (if_pos (.inr (by omega)))))
      rw [HR.out]
      clear HQ HR hm hm' h3 h3' h4
      generalize xs.length = m at *
      go_enter Tryd.func24, Tryd.ntmps24
      go_wp2_with fail
      refine CE.out.mono ?_
      rintro e w1 ⟨rfl, ⟨i1, i2, i3⟩, b1⟩
      have B1 := Lib.hid b1
      have c1 : w1.cell? ⟨w.heap.size + 1, 0, none⟩ = some (.int .i64 (m : Int)) := i1.cell 0
      have c2 : w1.cell? ⟨w.heap.size + 1 + 1, 0, none⟩ = some (.bool true) := i3.cell 0
      have c3 : w1.cell? ⟨w.heap.size, 0, none⟩ = some (.int .u64 (fn : Int)) := i2.cell 0
      have c4 : w1.cell? ⟨w.heap.size, 2, none⟩ = some (.int .i64 (fe : Int)) := i2.cell 2
      clear i1 i2 i3 b1
      go_wp2_with fail
      go_ret3
      exact ⟨rfl, B1.out⟩
    · have e4 : decide ((4096 : Int) < (fn : Int)) = false := by simpa using h4
      have HR := Lib.hid (HQ.out.trans ((if_neg (fun h => h.elim hm' (fun h => by cases h))).trans (if_neg (fun h => by rcases h with h | h <;> omega))))
      rw [HR.out]
      clear HQ HR hm hm' h3 h3' h4
      generalize xs.length = m at *
      go_enter Tryd.func24, Tryd.ntmps24
      go_wp2_with fail
      refine CE.out.mono ?_
      rintro e w1 ⟨rfl, ⟨i1, i2, i3⟩, b1⟩
      have B1 := Lib.hid b1
      have c1 : w1.cell? ⟨w.heap.size + 1, 0, none⟩ = some (.int .i64 (m : Int)) := i1.cell 0
      have c2 : w1.cell? ⟨w.heap.size + 1 + 1, 0, none⟩ = some (.bool true) := i3.cell 0
      have c3 : w1.cell? ⟨w.heap.size, 0, none⟩ = some (.int .u64 (fn : Int)) := i2.cell 0
      have c4 : w1.cell? ⟨w.heap.size, 2, none⟩ = some (.int .i64 (fe : Int)) := i2.cell 2
      clear i1 i2 i3 b1
      go_wp2_with fail
      go_quiet (fail)
      go_wp2_with fail
      go_ret3
      exact ⟨rfl, below_drewN B1.out _⟩
end Go.Proofs.YtcpohdejdiljnaaDoor
