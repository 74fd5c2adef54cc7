/-
  Package frame's mayHaveBody and Response.
  Conditions: those that each theorem names.
-/
import Derived.Test.YtemgfppclakdmaaGreatDoorFD
import Derived.Test.YtemgfppclakdmaaGreatDoorKF
namespace Go.Proofs.YtemgfppclakdmaaGreatDoor
open Go.RowKit

theorem SrcS.fresh {w : World} {P S : Nat → Prop} {A : Option Addr} {ls : List (List UInt8)} (h : SrcS w P A ls) (hS : ∀ k, k < w.heap.size → ¬ S k) : SrcS w (fun b => ¬ S b) A ls := fun h0 => by
  obtain ⟨ad, h1, _, h3, h4⟩ := h h0
  exact ⟨ad, h1, hS _ h3, h3, h4⟩

/-- What stands in the closure's cells. -/
def InvC (minor : Int) (gc gs : Nat) (xs : List (List UInt8)) (X : World) : Prop := Is X gc 3 [.int .i64 (xs.length : Int)] ∧ Is X gs 4 [.bool ((minor == 1) && xs.all isChk)]
def InvL (gf gc gs : Nat) (xs : List (List UInt8)) (X : World) : Prop := Is X gc 3 [.int .i64 (xs.length : Int)] ∧ Is X gf 152 (saidL (firstF xs)) ∧ Is X gs 4 [.bool (sureL xs)]

theorem codings_each {P : Nat → Prop} (minor : Int) (w : World) (A : Option Addr) (vs : List (List UInt8)) (n c : Nat) (hn : vs.length = n) (hv : SrcS w P A vs) (hslim : SlimS vs) (hmax : n ≤ 1000000000000) (hlen : (elsF vs).length ≤ 1000000000000) :
    Calls Tryz.prog 94 #[.slice A n c, .func (.func 95) #[] #[.pointer (some ⟨w.heap.size, 0, none⟩), .pointer (some ⟨w.heap.size + 1, 0, none⟩)]] ((w.alloc (.cells #[.int .i64 0] 3)).alloc (.cells #[.bool (minor == 1)] 4)) fun e w' =>
      e = .returned (.tuple #[]) ∧ InvC minor w.heap.size (w.heap.size + 1) (elsF vs) w' ∧ Below w.heap.size w w' := by
  have ic := (Is.made w 3 [.int .i64 0]).alloc (.cells #[.bool (minor == 1)] 4)
  have ib := Is.made (w.alloc (.cells #[.int .i64 0] 3)) 4 [.bool (minor == 1)]
  rw [show (w.alloc (.cells #[.int .i64 0] 3)).heap.size = w.heap.size + 1 from by simp] at ib
  have b0 := ((Below.refl w.heap.size w).alloc (Nat.le_refl _) (.cells #[.int .i64 0] 3)).alloc (by simp) (.cells #[.bool (minor == 1)] 4)
  have hsz : ((w.alloc (.cells #[.int .i64 0] 3)).alloc (.cells #[.bool (minor == 1)] 4)).heap.size = w.heap.size + 2 := by simp
  refine (each_cod (.pointer (some ⟨w.heap.size, 0, none⟩)) (.pointer (some ⟨w.heap.size + 1, 0, none⟩)) (fun k => k = w.heap.size ∨ k = w.heap.size + 1) (InvC minor w.heap.size (w.heap.size + 1)) _ A vs n c hn
    (fun h0 => by
      obtain ⟨ad, h1, h2, h3, h4⟩ := hv.kept (Turn.of_below (S := fun _ => False) b0) (fun _ _ h => h) h0
      obtain ⟨ad', h1', _, h3', _⟩ := hv h0
      rw [h1] at h1'
      obtain rfl := Option.some.inj h1'
      exact ⟨ad, h1, by omega, h3, h4⟩) (fun k hk => by rw [hsz]; omega) hslim hmax hlen ⟨ic, by simpa using ib⟩ ?_ ?_).mono ?_
  · intro xs X X' h hb
    exact ⟨h.1.kept (Turn.of_below (S := fun _ => False) hb) (fun h => h), h.2.kept (Turn.of_below (S := fun _ => False) hb) (fun h => h)⟩
  · intro xs x X h hx
    refine (cod1_any ⟨x.toArray⟩ w.heap.size (w.heap.size + 1) xs.length _ X h.1 h.2 hx).mono ?_
    rintro e w' ⟨rfl, h1, h2, h3⟩
    rw [bl_mk] at h2
    exact ⟨rfl, ⟨by simpa using h1, by simpa [Bool.and_assoc] using h2⟩, h3⟩
  · rintro e w' ⟨rfl, h1, h2⟩
    exact ⟨rfl, h1, ((Turn.of_below b0).trans h2 (fun _ _ h => h)).below (fun k hk hs => by rcases hs with hs | hs <;> omega)⟩
theorem codF_is (minor : Int) (cs : List (List UInt8)) : codF minor cs = if cs.length = 1 ∧ ((minor == 1) && cs.all isChk) = true then (2, 0, 0) else (0, 0, 22) := by
  unfold codF
  simp only [Bool.and_eq_true, beq_iff_eq]

set_option maxHeartbeats 4000000 in
set_option maxRecDepth 100000 in
theorem codings_any {P : Nat → Prop} (minor : Int) (w : World) (A : Option Addr) (vs : List (List UInt8)) (n c : Nat) (hn : vs.length = n) (hv : SrcS w P A vs) (hslim : SlimS vs) (hmax : n ≤ 1000000000000) (hlen : (elsF vs).length ≤ 1000000000000) :
    Calls Tryz.prog 57 #[.int .i64 minor, .slice A n c] w (Tells (codF minor (elsF vs)) w) := by
  have CE := Lib.hid (codings_each minor w A vs n c hn hv hslim hmax hlen)
  have HQ := Lib.hid (codF_is minor (elsF vs))
  clear hn hv hslim
  unfold InvC at CE
  generalize elsF vs = cs at *
  have h : ∀ R : Kd, Hid (codF minor cs = R) → codF minor cs = R := fun _ h => h.out
  generalize ((minor == 1) && cs.all isChk) = q at *
  by_cases hm : (cs.length : Int) = 1
  · have e1 : ((cs.length : Int) != 1) = false := by simpa using hm
    have hm' : cs.length = 1 := by omega
    cases q with
    | true =>
      have HR := Lib.hid (HQ.out.trans (if_pos ⟨hm', rfl⟩))
      rw [HR.out]
      clear HQ HR hm hm' h
      generalize cs.length = m at *
      go_enter Tryz.func57, Tryz.ntmps57
      go_wp2_with fail
      refine CE.out.mono ?_
      rintro e w1 ⟨rfl, ⟨i1, i2⟩, b1⟩
      have B1 := Lib.hid b1
      have c1 : w1.cell? ⟨w.heap.size, 0, none⟩ = some (.int .i64 (m : Int)) := i1.cell 0
      have c2 : w1.cell? ⟨w.heap.size + 1, 0, none⟩ = some (.bool true) := i2.cell 0
      clear i1 i2 b1
      go_wp2_with fail
      go_ret3
      exact ⟨rfl, B1.out⟩
    | false =>
      have HR := Lib.hid (HQ.out.trans (if_neg (fun h => by cases h.2)))
      rw [HR.out]
      clear HQ HR hm hm' h
      generalize cs.length = m at *
      go_enter Tryz.func57, Tryz.ntmps57
      go_wp2_with fail
      refine CE.out.mono ?_
      rintro e w1 ⟨rfl, ⟨i1, i2⟩, b1⟩
      have B1 := Lib.hid b1
      have c1 : w1.cell? ⟨w.heap.size, 0, none⟩ = some (.int .i64 (m : Int)) := i1.cell 0
      have c2 : w1.cell? ⟨w.heap.size + 1, 0, none⟩ = some (.bool false) := i2.cell 0
      clear i1 i2 b1
      go_wp2_with fail
      go_ret3
      exact ⟨rfl, B1.out⟩
  · have e1 : ((cs.length : Int) != 1) = true := by simpa using hm
    have hm' : ¬ cs.length = 1 := by omega
    have HR := Lib.hid (HQ.out.trans (if_neg (fun h => hm' h.1)))
    rw [HR.out]
    clear HQ HR hm hm' h
    generalize cs.length = m at *
    go_enter Tryz.func57, Tryz.ntmps57
    go_wp2_with fail
    refine CE.out.mono ?_
    rintro e w1 ⟨rfl, ⟨i1, i2⟩, b1⟩
    have B1 := Lib.hid b1
    have c1 : w1.cell? ⟨w.heap.size, 0, none⟩ = some (.int .i64 (m : Int)) := i1.cell 0
    clear i1 i2 b1
    go_wp2_with fail
    go_ret3
    exact ⟨rfl, B1.out⟩

theorem lengths_each {P : Nat → Prop} (w : World) (A : Option Addr) (vs : List (List UInt8)) (n c : Nat) (hn : vs.length = n) (hv : SrcS w P A vs) (hslim : SlimS vs) (hmax : n ≤ 1000000000000) (hlen : (elsF vs).length ≤ 1000000000000) :
    Calls Tryz.prog 94 #[.slice A n c, .func (.func 96) #[] #[.pointer (some ⟨w.heap.size + 1, 0, none⟩), .pointer (some ⟨w.heap.size, 0, none⟩), .pointer (some ⟨w.heap.size + 1 + 1, 0, none⟩)]]
      (((w.alloc (.cells #[.int .u64 0, .string ⟨#[]⟩, .int .i64 0] 152)).alloc (.cells #[.int .i64 0] 3)).alloc (.cells #[.bool true] 4)) fun e w' =>
      e = .returned (.tuple #[]) ∧ InvL w.heap.size (w.heap.size + 1) (w.heap.size + 1 + 1) (elsF vs) w' ∧ Below w.heap.size w w' := by
  have jf := ((Is.made w 152 [.int .u64 0, .string ⟨#[]⟩, .int .i64 0]).alloc (.cells #[.int .i64 0] 3)).alloc (.cells #[.bool true] 4)
  have jc := (Is.made (w.alloc (.cells #[.int .u64 0, .string ⟨#[]⟩, .int .i64 0] 152)) 3 [.int .i64 0]).alloc (.cells #[.bool true] 4)
  rw [show (w.alloc (.cells #[.int .u64 0, .string ⟨#[]⟩, .int .i64 0] 152)).heap.size = w.heap.size + 1 from by simp] at jc
  have jb := Is.made ((w.alloc (.cells #[.int .u64 0, .string ⟨#[]⟩, .int .i64 0] 152)).alloc (.cells #[.int .i64 0] 3)) 4 [.bool true]
  rw [show ((w.alloc (.cells #[.int .u64 0, .string ⟨#[]⟩, .int .i64 0] 152)).alloc (.cells #[.int .i64 0] 3)).heap.size = w.heap.size + 1 + 1 from by simp] at jb
  have b0 := (((Below.refl w.heap.size w).alloc (Nat.le_refl _) (.cells #[.int .u64 0, .string ⟨#[]⟩, .int .i64 0] 152)).alloc (by simp) (.cells #[.int .i64 0] 3)).alloc (by simp; omega) (.cells #[.bool true] 4)
  have hsz : (((w.alloc (.cells #[.int .u64 0, .string ⟨#[]⟩, .int .i64 0] 152)).alloc (.cells #[.int .i64 0] 3)).alloc (.cells #[.bool true] 4)).heap.size = w.heap.size + 3 := by simp
  refine (each_len (.pointer (some ⟨w.heap.size + 1, 0, none⟩)) (.pointer (some ⟨w.heap.size, 0, none⟩)) (.pointer (some ⟨w.heap.size + 1 + 1, 0, none⟩)) (fun k => k = w.heap.size + 1 ∨ k = w.heap.size ∨ k = w.heap.size + 1 + 1) (InvL w.heap.size (w.heap.size + 1) (w.heap.size + 1 + 1)) _ A vs n c hn
    (fun h0 => by
      obtain ⟨ad, h1, h2, h3, h4⟩ := hv.kept (Turn.of_below (S := fun _ => False) b0) (fun _ _ h => h) h0
      obtain ⟨ad', h1', _, h3', _⟩ := hv h0
      rw [h1] at h1'
      obtain rfl := Option.some.inj h1'
      exact ⟨ad, h1, by omega, h3, h4⟩) (fun k hk => by rw [hsz]; omega) hslim hmax hlen ⟨jc, jf, jb⟩ ?_ ?_).mono ?_
  · intro xs X X' h hb
    exact ⟨h.1.kept (Turn.of_below (S := fun _ => False) hb) (fun h => h), h.2.1.kept (Turn.of_below (S := fun _ => False) hb) (fun h => h), h.2.2.kept (Turn.of_below (S := fun _ => False) hb) (fun h => h)⟩
  · intro xs x X h hx
    refine (len1_any ⟨x.toArray⟩ (w.heap.size + 1) w.heap.size (w.heap.size + 1 + 1) xs.length (firstF xs) _ X h.1 h.2.1 h.2.2 hx).mono ?_
    rintro e w' ⟨rfl, h1, h2, h3, h4⟩
    rw [bl_mk] at h2 h3
    have hf : nextF xs.length (firstF xs) (rdF x) = firstF (xs ++ [x]) := (firstF_snoc xs x).symm
    rw [hf] at h2 h3
    rw [← sureL_snoc] at h3
    exact ⟨rfl, ⟨by simpa using h1, h2, h3⟩, h4⟩
  · rintro e w' ⟨rfl, h1, h2⟩
    exact ⟨rfl, h1, ((Turn.of_below b0).trans h2 (fun _ _ h => h)).below (fun k hk hs => by rcases hs with hs | hs | hs <;> omega)⟩

set_option maxHeartbeats 4000000 in
set_option maxRecDepth 100000 in
theorem lengths_any {P : Nat → Prop} (w : World) (A : Option Addr) (vs : List (List UInt8)) (n c : Nat) (hn : vs.length = n) (hv : SrcS w P A vs) (hslim : SlimS vs) (hmax : n ≤ 1000000000000) (hlen : (elsF vs).length ≤ 1000000000000) :
    Calls Tryz.prog 58 #[.slice A n c] w (Tells (lenF (elsF vs)) w) := by
  have CE := Lib.hid (lengths_each w A vs n c hn hv hslim hmax hlen)
  have HQ := Lib.hid (show lenF (elsF vs) = if (elsF vs).length = 0 ∨ sureL (elsF vs) = false then (0, 0, 22) else if (firstF (elsF vs)).2.2 = 3 ∨ 4096 < (firstF (elsF vs)).1 then (0, 0, 21) else (1, (firstF (elsF vs)).1, 0) from rfl)
  clear hn hv hslim
  unfold InvL at CE
  generalize elsF vs = xs at *
  generalize sureL xs = q at *
  generalize firstF xs = p at *
  obtain ⟨fn, ft, fe⟩ := p
  unfold saidL at CE
  simp only at CE HQ
  generalize lenF xs = R at *
  by_cases hm : (xs.length : Int) = 0
  · have e1 : ((xs.length : Int) == 0) = true := by simpa using hm
    have hm' : xs.length = 0 := by omega
    have HR := Lib.hid (HQ.out.trans (if_pos (.inl hm')))
    rw [HR.out]
    clear HQ HR hm hm'
    generalize xs.length = m at *
    go_enter Tryz.func58, Tryz.ntmps58
    go_wp2_with fail
    refine CE.out.mono ?_
    rintro e w1 ⟨rfl, ⟨i1, i2, i3⟩, b1⟩
    have B1 := Lib.hid b1
    have c1 : w1.cell? ⟨w.heap.size + 1, 0, none⟩ = some (.int .i64 (m : Int)) := i1.cell 0
    clear i1 i2 i3 b1
    go_wp2_with fail
    go_ret3
    exact ⟨rfl, B1.out⟩
  have e1 : ((xs.length : Int) == 0) = false := by simpa using hm
  have hm' : ¬ xs.length = 0 := by omega
  cases q with
  | false =>
    · have HR := Lib.hid (HQ.out.trans (if_pos (.inr rfl)))
      rw [HR.out]
      clear HQ HR hm hm'
      generalize xs.length = m at *
      go_enter Tryz.func58, Tryz.ntmps58
      go_wp2_with fail
      refine CE.out.mono ?_
      rintro e w1 ⟨rfl, ⟨i1, i2, i3⟩, b1⟩
      have B1 := Lib.hid b1
      have c1 : w1.cell? ⟨w.heap.size + 1, 0, none⟩ = some (.int .i64 (m : Int)) := i1.cell 0
      have c2 : w1.cell? ⟨w.heap.size + 1 + 1, 0, none⟩ = some (.bool false) := i3.cell 0
      clear i1 i2 i3 b1
      go_wp2_with fail
      go_ret3
      exact ⟨rfl, B1.out⟩
  | true =>
    by_cases h3 : (fe : Int) = 3
    · have e3 : ((fe : Int) == 3) = true := by simpa using h3
      have h3' : fe = 3 := by omega
      have HR := Lib.hid (HQ.out.trans ((if_neg (fun h => h.elim hm' (fun h => by cases h))).trans (if_pos (.inl h3'))))
      rw [HR.out]
      clear HQ HR hm hm' h3 h3'
      generalize xs.length = m at *
      go_enter Tryz.func58, Tryz.ntmps58
      go_wp2_with fail
      refine CE.out.mono ?_
      rintro e w1 ⟨rfl, ⟨i1, i2, i3⟩, b1⟩
      have B1 := Lib.hid b1
      have c1 : w1.cell? ⟨w.heap.size + 1, 0, none⟩ = some (.int .i64 (m : Int)) := i1.cell 0
      have c2 : w1.cell? ⟨w.heap.size + 1 + 1, 0, none⟩ = some (.bool true) := i3.cell 0
      have c3 : w1.cell? ⟨w.heap.size, 0, none⟩ = some (.int .u64 (fn : Int)) := i2.cell 0
      have c4 : w1.cell? ⟨w.heap.size, 2, none⟩ = some (.int .i64 (fe : Int)) := i2.cell 2
      clear i1 i2 i3 b1
      go_wp2_with fail
      go_ret3
      exact ⟨rfl, B1.out⟩
    have e3 : ((fe : Int) == 3) = false := by simpa using h3
    have h3' : ¬ fe = 3 := by omega
    by_cases h4 : (4096 : Int) < (fn : Int)
    · have e4 : decide ((4096 : Int) < (fn : Int)) = true := by simpa using h4
      have HR := Lib.hid (HQ.out.trans ((if_neg (fun h => h.elim hm' (fun h => by cases h))).trans (if_pos (.inr (by omega)))))
      rw [HR.out]
      clear HQ HR hm hm' h3 h3' h4
      generalize xs.length = m at *
      go_enter Tryz.func58, Tryz.ntmps58
      go_wp2_with fail
      refine CE.out.mono ?_
      rintro e w1 ⟨rfl, ⟨i1, i2, i3⟩, b1⟩
      have B1 := Lib.hid b1
      have c1 : w1.cell? ⟨w.heap.size + 1, 0, none⟩ = some (.int .i64 (m : Int)) := i1.cell 0
      have c2 : w1.cell? ⟨w.heap.size + 1 + 1, 0, none⟩ = some (.bool true) := i3.cell 0
      have c3 : w1.cell? ⟨w.heap.size, 0, none⟩ = some (.int .u64 (fn : Int)) := i2.cell 0
      have c4 : w1.cell? ⟨w.heap.size, 2, none⟩ = some (.int .i64 (fe : Int)) := i2.cell 2
      clear i1 i2 i3 b1
      go_wp2_with fail
      go_ret3
      exact ⟨rfl, B1.out⟩
    · have e4 : decide ((4096 : Int) < (fn : Int)) = false := by simpa using h4
      have HR := Lib.hid (HQ.out.trans ((if_neg (fun h => h.elim hm' (fun h => by cases h))).trans (if_neg (fun h => by rcases h with h | h <;> omega))))
      rw [HR.out]
      clear HQ HR hm hm' h3 h3' h4
      generalize xs.length = m at *
      go_enter Tryz.func58, Tryz.ntmps58
      go_wp2_with fail
      refine CE.out.mono ?_
      rintro e w1 ⟨rfl, ⟨i1, i2, i3⟩, b1⟩
      have B1 := Lib.hid b1
      have c1 : w1.cell? ⟨w.heap.size + 1, 0, none⟩ = some (.int .i64 (m : Int)) := i1.cell 0
      have c2 : w1.cell? ⟨w.heap.size + 1 + 1, 0, none⟩ = some (.bool true) := i3.cell 0
      have c3 : w1.cell? ⟨w.heap.size, 0, none⟩ = some (.int .u64 (fn : Int)) := i2.cell 0
      have c4 : w1.cell? ⟨w.heap.size, 2, none⟩ = some (.int .i64 (fe : Int)) := i2.cell 2
      clear i1 i2 i3 b1
      go_wp2_with fail
      go_quiet (fail)
      go_wp2_with fail
      go_ret3
      exact ⟨rfl, below_drewN B1.out _⟩
end Go.Proofs.YtemgfppclakdmaaGreatDoor

namespace Go.Proofs.YtemgfppclakdmaaGreatDoor
open Go.RowKit

/-- The word of what a list of fields asks: places, sizes. -/
structure Fit (ls : List Fld) : Prop where
  few : ls.length ≤ 1000000000000
  slim : Slim ls
  lens : (elsF (getF ls lenN)).length ≤ 1000000000000
  cods : (elsF (getF ls codN)).length ≤ 1000000000000
theorem Slim.get {ls : List Fld} (h : Slim ls) (nm : List UInt8) : SlimS (getF ls nm) := by
  intro x hx
  unfold getF at hx
  obtain ⟨f, hf, rfl⟩ := List.mem_map.1 hx
  exact (h f (List.mem_filter.1 hf).1).2
theorem bl_len : bl ⟨#[99, 111, 110, 116, 101, 110, 116, 45, 108, 101, 110, 103, 116, 104]⟩ = lenN := rfl
theorem bl_cod : bl ⟨#[116, 114, 97, 110, 115, 102, 101, 114, 45, 101, 110, 99, 111, 100, 105, 110, 103]⟩ = codN := rfl
theorem reqK_is (minor : Int) (ls : List Fld) (hm : minor = 0 ∨ minor = 1) : reqK minor ls = if (getF ls lenN).length ≠ 0 ∧ (getF ls codN).length ≠ 0 then (0, 0, 22) else if (getF ls codN).length ≠ 0 then codF minor (elsF (getF ls codN)) else if (getF ls lenN).length ≠ 0 then lenF (elsF (getF ls lenN)) else (0, 0, 0) := by
  have e : ∀ l : List (List UInt8), (l ≠ []) = (l.length ≠ 0) := fun l => by simp
  unfold reqK
  rw [if_neg (by omega)]
  simp only [e]

set_option maxHeartbeats 4000000 in
set_option maxRecDepth 100000 in
theorem request_any {P : Nat → Prop} (minor : Int) (w : World) (A : Option Addr) (ls : List Fld) (n c : Nat) (hn : ls.length = n) (h : SrcF w P A ls) (hf : Fit ls) :
    Calls Tryz.prog 27 #[.int .i64 minor, .slice A n c] w (Tells (reqK minor ls) w) := by
  by_cases hm : minor = 0 ∨ minor = 1
  · have hmax : n * 32 ≤ 140737488355328 := by have := hf.few; omega
    have C1 := Lib.hid (get_any w A ls n c hn hmax h hf.slim ⟨#[99, 111, 110, 116, 101, 110, 116, 45, 108, 101, 110, 103, 116, 104]⟩)
    have C2 := Lib.hid (fun (X : World) (hX : Below w.heap.size w X) => get_any X A ls n c hn hmax (h.below hX) hf.slim ⟨#[116, 114, 97, 110, 115, 102, 101, 114, 45, 101, 110, 99, 111, 100, 105, 110, 103]⟩)
    rw [bl_len] at C1
    rw [bl_cod] at C2
    have HK := Lib.hid (reqK_is minor ls hm)
    have S1 := Lib.hid (hf.slim.get lenN)
    have S2 := Lib.hid (hf.slim.get codN)
    have L1 := Lib.hid hf.lens
    have L2 := Lib.hid hf.cods
    have N1 := Lib.hid (Nat.le_trans (getF_length ls lenN) hf.few)
    have N2 := Lib.hid (Nat.le_trans (getF_length ls codN) hf.few)
    clear h hf hn hmax
    generalize getF ls lenN = lv at *
    generalize getF ls codN = cv at *
    generalize reqK minor ls = R at *
    have hq : (minor != 0) = false ∨ ((minor != 0) = true ∧ (minor != 1) = false) := by
      rcases hm with rfl | rfl
      · exact .inl rfl
      · exact .inr ⟨rfl, rfl⟩
    clear hm
    rcases hq with q1 | ⟨q1, q2⟩
    all_goals
      go_enter Tryz.func27, Tryz.ntmps27
      go_wp2_with fail
      refine C1.out.mono ?_
      rintro e w1 ⟨v1, o1, rfl, own1, ho1, b1⟩
      have B1 := Lib.hid b1
      obtain ⟨A1, c1, hv1, src1⟩ := own1.src (fun _ => True) (fun _ _ => trivial)
      subst hv1
      have R1 := Lib.hid src1
      have C3 := Lib.hid (C2.out w1 b1)
      clear own1 ho1 b1 src1 C1 C2
      go_wp2_with fail
      refine C3.out.mono ?_
      rintro e w2 ⟨v2, o2, rfl, own2, ho2, b2⟩
      obtain ⟨A2, c2, hv2, src2⟩ := own2.src (fun _ => True) (fun _ _ => trivial)
      subst hv2
      have R2 := Lib.hid src2
      have R3 := Lib.hid (R1.out.kept (Turn.of_below (S := fun _ => False) b2) (fun _ _ h => h))
      have B2 := Lib.hid (B1.out.trans (b2.mono B1.out.size))
      clear own2 ho2 b2 src2 C3
      by_cases ha : (0 : Int) < (lv.length : Int)
      · have e1 : decide ((0 : Int) < (lv.length : Int)) = true := by simpa using ha
        have e1n : decide (0 < lv.length) = true := by simpa using ha
        have ha' : lv.length ≠ 0 := by omega
        by_cases hb : (0 : Int) < (cv.length : Int)
        · have e2 : decide ((0 : Int) < (cv.length : Int)) = true := by simpa using hb
          have e2n : decide (0 < cv.length) = true := by simpa using hb
          have HR := Lib.hid (HK.out.trans (if_pos ⟨ha', by omega⟩))
          clear HK ha ha' hb
          go_wp2_with fail
          go_ret3
          exact ⟨by first | (rw [HR.out]; done) | (rw [HR.out]; rfl), B2.out⟩
        · have e2 : decide ((0 : Int) < (cv.length : Int)) = false := by simpa using hb
          have e2n : decide (0 < cv.length) = false := by simpa using hb
          have hb' : ¬ cv.length ≠ 0 := by omega
          have HR := Lib.hid ((HK.out.trans (if_neg (fun h => hb' h.2))).trans ((if_neg hb').trans (if_pos ha')))
          have CF := Lib.hid (lengths_any w2 A1 lv lv.length c1 rfl R3.out S1.out N1.out L1.out)
          clear HK ha ha' hb hb'
          generalize lenF (elsF lv) = K at *
          unfold Tells kdV at *
          go_wp2_with fail
          refine CF.out.mono ?_
          rintro e w3 ⟨rfl, b3⟩
          go_wp2_with fail
          go_ret3
          exact ⟨by first | (rw [HR.out]; done) | (rw [HR.out]; rfl), B2.out.trans (b3.mono B2.out.size)⟩
      · have e1 : decide ((0 : Int) < (lv.length : Int)) = false := by simpa using ha
        have e1n : decide (0 < lv.length) = false := by simpa using ha
        have ha' : ¬ lv.length ≠ 0 := by omega
        by_cases hb : (0 : Int) < (cv.length : Int)
        · have e2 : decide ((0 : Int) < (cv.length : Int)) = true := by simpa using hb
          have e2n : decide (0 < cv.length) = true := by simpa using hb
          have HR := Lib.hid ((HK.out.trans (if_neg (fun h => ha' h.1))).trans (if_pos (by omega)))
          have CF := Lib.hid (codings_any minor w2 A2 cv cv.length c2 rfl R2.out S2.out N2.out L2.out)
          clear HK ha ha' hb
          generalize codF minor (elsF cv) = K at *
          unfold Tells kdV at *
          go_wp2_with fail
          refine CF.out.mono ?_
          rintro e w3 ⟨rfl, b3⟩
          go_wp2_with fail
          go_ret3
          exact ⟨by first | (rw [HR.out]; done) | (rw [HR.out]; rfl), B2.out.trans (b3.mono B2.out.size)⟩
        · have e2 : decide ((0 : Int) < (cv.length : Int)) = false := by simpa using hb
          have e2n : decide (0 < cv.length) = false := by simpa using hb
          have hb' : ¬ cv.length ≠ 0 := by omega
          have HR := Lib.hid ((HK.out.trans (if_neg (fun h => hb' h.2))).trans ((if_neg hb').trans (if_neg ha')))
          clear HK ha ha' hb hb'
          go_wp2_with fail
          go_ret3
          exact ⟨by first | (rw [HR.out]; done) | (rw [HR.out]; rfl), B2.out⟩
  · have e1 : (minor != 0) = true := by simp; omega
    have e2 : (minor != 1) = true := by simp; omega
    have HR : reqK minor ls = (0, 0, 1) := by unfold reqK; exact if_pos (by omega)
    rw [HR]
    clear h hf hn hm HR
    go_enter Tryz.func27, Tryz.ntmps27
    go_wp2_with fail
    go_ret3
    exact ⟨rfl, Below.refl _ _⟩
end Go.Proofs.YtemgfppclakdmaaGreatDoor

namespace Go.Proofs.YtemgfppclakdmaaGreatDoor
open Go.RowKit

theorem toList_bl (m : ByteArray) : m.toList = bl m := Lib.toList_data m

set_option maxHeartbeats 4000000 in
set_option maxRecDepth 100000 in
theorem body_any (status : Int) (m : ByteArray) (w : World) : Calls Tryz.prog 69 #[.int .i64 status, .string m] w fun e w' => e = .returned (.bool (bodyF status (bl m))) ∧ w = w' := by
  go_enter Tryz.func69, Tryz.ntmps69
  go_wp2_with fail
  all_goals
    go_ret
    refine ⟨ret_bool ?_, rfl⟩
    unfold bodyF
    rw [← toList_bl]
    simp_all
  all_goals omega

theorem tells3 {a b c : Int} {p : Kd} (h : (p.1 : Int) = a ∧ (p.2.1 : Int) = b ∧ (p.2.2 : Int) = c) : Ending.returned (.tuple #[.int .i64 a, .int .u64 b, .int .i64 c]) = Ending.returned (kdV p) := by
  obtain ⟨rfl, rfl, rfl⟩ := h
  rfl
set_option maxHeartbeats 4000000 in
set_option maxRecDepth 100000 in
theorem response_any {P : Nat → Prop} (status : Int) (m : ByteArray) (minor : Int) (w : World) (A : Option Addr) (ls : List Fld) (n c : Nat) (hn : ls.length = n) (h : SrcF w P A ls) (hf : Fit ls) :
    Calls Tryz.prog 38 #[.int .i64 status, .string m, .int .i64 minor, .slice A n c] w (Tells (resK status (bl m) (reqK minor ls)) w) := by
  have C := Lib.hid (request_any minor w A ls n c hn h hf)
  clear hn h hf
  generalize reqK minor ls = p at *
  obtain ⟨k, l, e⟩ := p
  have CB := Lib.hid (fun X : World => body_any status m X)
  have HR := Lib.hid (show resK status (bl m) (k, l, e) = if status < 100 ∨ 599 < status then (0, 0, 1) else if e = 1 ∨ e = 22 then (0, 0, e) else if bodyF status (bl m) = false then (0, 0, 0) else if e = 0 ∧ k = 0 then (3, 0, 0) else (k, l, e) from rfl)
  generalize bodyF status (bl m) = q at *
  unfold Tells kdV at C
  simp only at C
  go_enter Tryz.func38, Tryz.ntmps38
  go_wp2_with (first
    | (go_at_call 27
       refine C.out.mono ?_
       rintro x w1 ⟨rfl, b1⟩
       have B1 := Lib.hid b1
       clear b1)
    | (go_at_call 69
       refine (CB.out _).mono ?_
       rintro x w2 ⟨rfl, rfl⟩))
  all_goals
    go_ret3
    refine ⟨tells3 ?_, by first | exact B1.out | exact Below.refl _ _⟩
    rw [HR.out]
    clear C CB HR
    try simp only [beq_iff_eq, beq_eq_false_iff_ne, ne_eq, Bool.not_eq_true', Bool.not_eq_false'] at *
    repeat' split
  all_goals first | omega | (simp_all; done) | (simp_all; omega)
end Go.Proofs.YtemgfppclakdmaaGreatDoor
