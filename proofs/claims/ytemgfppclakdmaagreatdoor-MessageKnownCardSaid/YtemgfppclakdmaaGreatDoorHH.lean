/-
  What the reference's Parse answers: a machine, byte by byte.
  Conditions: those that each theorem names.
-/
import Derived.Test.YtemgfppclakdmaaGreatDoorHE
import Derived.Test.YtemgfppclakdmaaGreatDoorUD
namespace Go.Proofs.YtemgfppclakdmaaGreatDoor
open Go.RowKit

theorem srcs_one (w : World) (x : List UInt8) : SrcS (w.alloc (.cells #[.string ⟨x.toArray⟩] 9)) (fun _ => True) (some ⟨w.heap.size, 0, none⟩) [x] := fun _ => by
  refine ⟨_, rfl, trivial, by simp, fun i l hl => ?_⟩
  have hi : Is (w.alloc (.cells #[.string ⟨x.toArray⟩] 9)) w.heap.size 9 [strV x] := Is.made w 9 [strV x]
  rw [add_at, Nat.zero_add, hi.cell]
  match i, hl with
  | 0, hl =>
    simp only [List.getElem?_cons_zero, Option.some.injEq] at hl
    rw [hl]
    rfl

end Go.Proofs.YtemgfppclakdmaaGreatDoor

namespace Go.Proofs.YtemgfppclakdmaaGreatDoor
open Go.RowKit

/-- The plain lines of fields; their bytes. -/
def linesF (ls : List Fld) : List UInt8 := ls.flatMap fun f => f.1 ++ ([58, 32] ++ (f.2 ++ [13, 10]))
def putF (ls : List Fld) : Option (List UInt8) := if mayF ls = true then some (linesF ls ++ [13, 10]) else none
theorem linesF_snoc (ls : List Fld) (f : Fld) : linesF (ls ++ [f]) = linesF ls ++ (f.1 ++ ([58, 32] ++ (f.2 ++ [13, 10]))) := by simp [linesF]
theorem linesF_length (ls : List Fld) : (linesF ls).length + 2 = sumL ls := by
  unfold linesF sumL lineL
  induction ls with
  | nil => rfl
  | cons f r ih =>
    simp only [List.flatMap_cons, List.length_append, List.map_cons, List.sum_cons, List.length_cons, List.length_nil] at ih ⊢
    omega
theorem may_facts (ls : List Fld) (h : mayF ls = true) : ls.length ≤ 32 ∧ (∀ f ∈ ls, lineOk f = true) ∧ sumL ls ≤ 2048 := by
  unfold mayF at h
  simp only [Bool.and_eq_true, decide_eq_true_eq, List.all_eq_true] at h
  exact h
/-- What Put tells: nil and ErrArg; or bytes in new memory. -/
def PutGot (r : Option (List UInt8)) (w : World) (e : Ending) (w' : World) : Prop :=
  Below w.heap.size w w' ∧ match r with
    | none => e = .returned (.tuple #[.slice none 0 0, .int .i64 1])
    | some l => ∃ g cap, e = .returned (.tuple #[.slice (some ⟨g, 0, none⟩) l.length cap, .int .i64 0]) ∧ Row w' g l ∧ w.heap.size ≤ g

end Go.Proofs.YtemgfppclakdmaaGreatDoor

namespace Go.Proofs.YtemgfppclakdmaaGreatDoor
open Go.RowKit

/-- What the machine does at a byte: it stops, or goes on. -/
inductive HStep
  | stop (l : List Fld) (n e : Nat)
  | go (part long : Nat) (nm v : List UInt8) (l : List Fld)
def stepF (at0 : Nat) (c : UInt8) (part long : Nat) (nm v : List UInt8) (l : List Fld) : HStep :=
  if 2048 ≤ at0 then .stop [] 0 21
  else if part = 0 then
    if c = 13 then .go 4 long nm v l
    else if l.length = 32 then .stop [] 0 21
    else if 512 < long + 1 then .stop [] 0 21
    else if tokB c = true then .go 1 (long + 1) [c] v l
    else .stop [] 0 20
  else if part = 1 then
    if c = 13 then .stop [] 0 20
    else if 512 < long + 1 then .stop [] 0 21
    else if c = 58 then .go 2 (long + 1) nm [] l
    else if tokB c = true then .go 1 (long + 1) (nm ++ [c]) v l
    else .stop [] 0 20
  else if part = 2 then
    if c = 13 then .go 3 long nm v l
    else if 512 < long + 1 then .stop [] 0 21
    else if shownB c = true then .go 2 (long + 1) nm (v ++ [c]) l
    else .stop [] 0 20
  else if part = 3 then
    if c = 10 then .go 0 0 nm v (l ++ [(nm, trimF v)])
    else .stop [] 0 20
  else if c = 10 then .stop l (at0 + 1) 0
  else .stop [] 0 20
def runF (at0 part long : Nat) (nm v : List UInt8) (l : List Fld) : List UInt8 → List Fld × Nat × Nat
  | [] => ([], 0, 8)
  | c :: r => match stepF at0 c part long nm v l with
    | .stop l' n e => (l', n, e)
    | .go part' long' nm' v' l' => runF (at0 + 1) part' long' nm' v' l' r
def parseH (b : List UInt8) : List Fld × Nat × Nat := runF 0 0 0 [] [] [] b
theorem runF_stop {at0 part long : Nat} {nm v : List UInt8} {l l' : List Fld} {c : UInt8} {r : List UInt8} {n e : Nat} (h : stepF at0 c part long nm v l = .stop l' n e) : runF at0 part long nm v l (c :: r) = (l', n, e) := by
  unfold runF
  rw [h]
theorem runF_go {at0 part long part' long' : Nat} {nm v nm' v' : List UInt8} {l l' : List Fld} {c : UInt8} {r : List UInt8} (h : stepF at0 c part long nm v l = .go part' long' nm' v' l') : runF at0 part long nm v l (c :: r) = runF (at0 + 1) part' long' nm' v' l' r := by
  conv => lhs; unfold runF
  rw [h]
/-- What Parse tells. -/
def HeadGot (R : List Fld × Nat × Nat) (w : World) (e : Ending) (w' : World) : Prop :=
  ∃ v o, e = .returned (.tuple #[v, .int .i64 (R.2.1 : Int), .int .i64 (R.2.2 : Int)]) ∧ OwnF w' v o R.1 ∧ (∀ b, o = some b → w.heap.size ≤ b) ∧ Below w.heap.size w w'
theorem head_stop {R : List Fld × Nat × Nat} {w w' : World} {n e : Nat} {a b : Int} (h : R = ([], n, e)) (ha : a = n) (hb : b = e) (hB : Below w.heap.size w w') : HeadGot R w (.returned (.tuple #[.slice none 0 0, .int .i64 a, .int .i64 b])) w' :=
  ⟨_, none, by rw [h, ha, hb], by rw [h]; exact OwnF.nil _, fun _ h => (by cases h), hB⟩
theorem tok_one (c : UInt8) : tokF [c] = tokB c := by simp [tokF]

/-- string([]byte{c}). -/
theorem run_one (w : World) (c : UInt8) : (convert 22 9 (.slice (some ⟨w.heap.size, 0, none⟩) 1 1)).run Tryz.prog (w.alloc (.cells #[.int .u8 (c.toNat : Int)] 5)) = .ok (.string ⟨[c].toArray⟩) (w.alloc (.cells #[.int .u8 (c.toNat : Int)] 5)) :=
  run_convert_bytes_back (P := Tryz.prog) _ 22 9 5 ⟨w.heap.size, 0, none⟩ 1 [c] Tryz.underlying22 Tryz.underlying5 Tryz.underlying9 (fun j hj => by
    obtain rfl : j = 0 := by simpa using hj
    rw [add_at, Nat.zero_add, World.cell?_alloc_new]
    rfl)
set_option maxHeartbeats 1000000 in
theorem one_any (c : UInt8) (w : World) : Calls Tryz.prog 98 #[.int .u8 (c.toNat : Int)] w fun e w' => e = .returned (.bool (tokB c)) ∧ Below w.heap.size w w' := by
  have hr := run_one w c
  have C := Lib.hid (fun X : World => token_any ⟨[c].toArray⟩ X (by rw [← bl_length, bl_mk]; unfold maxLen; simp))
  rw [bl_mk, tok_one] at C
  generalize tokB c = b at *
  generalize (⟨[c].toArray⟩ : ByteArray) = cs at *
  go_enter Tryz.func98, Tryz.ntmps98
  go_wp2_with fail
  refine (C.out _).mono ?_
  rintro e w' ⟨rfl, rfl⟩
  go_wp2_with fail
  go_ret
  exact ⟨rfl, (Below.refl _ _).alloc (Nat.le_refl _) _⟩
theorem shownB_ref (c : UInt8) : shownB c = (decide ((c.toNat : Int) = 9) || (decide (32 ≤ (c.toNat : Int)) && decide (¬ (c.toNat : Int) = 127))) := by
  have h := UInt8.toNat_lt c
  rw [shownB_nat, Bool.eq_iff_iff]
  simp
  omega
set_option maxHeartbeats 1000000 in
theorem shown5_any (c : UInt8) (w : World) : Calls Tryz.prog 99 #[.int .u8 (c.toNat : Int)] w fun e w' => e = .returned (.bool (shownB c)) ∧ Below w.heap.size w w' := by
  have HB := Lib.hid (shownB_ref c)
  have hlt := UInt8.toNat_lt c
  generalize shownB c = b at *
  go_enter Tryz.func99, Tryz.ntmps99
  go_wp2_with fail
  all_goals
    go_ret
    refine ⟨ret_bool ?_, Below.refl _ _⟩
    rw [HB.out, Bool.eq_iff_iff]
    simp
    omega
end Go.Proofs.YtemgfppclakdmaaGreatDoor
