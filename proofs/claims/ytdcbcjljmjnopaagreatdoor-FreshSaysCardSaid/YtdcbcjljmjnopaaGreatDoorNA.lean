/-
  Numbers as lists of digits, there and back: plain mathematics.
  Conditions: those that each theorem names.
-/
import Derived.Test.YtdcbcjljmjnopaaGreatDoorBL
import Derived.Lib.ItoaNum
namespace Go.Proofs.YtdcbcjljmjnopaaGreatDoor
open Go.RowKit

/-- What a byte is worth as a digit; 99: it is none. -/
def worth (c : UInt8) : Nat := if 48 ≤ c.toNat ∧ c.toNat ≤ 57 then c.toNat - 48 else if 97 ≤ c.toNat ∧ c.toNat ≤ 102 then c.toNat - 87 else if 65 ≤ c.toNat ∧ c.toNat ≤ 70 then c.toNat - 55 else 99
/-- The digit that is worth d. -/
def dg (d : Nat) : UInt8 := if d < 10 then UInt8.ofNat (48 + d) else UInt8.ofNat (87 + d)
def digB (b : Nat) (c : UInt8) : Bool := decide (worth c < b)
/-- What digits say. -/
def valF (b : Nat) (l : List UInt8) : Nat := l.foldl (fun n c => n * b + worth c) 0
def Most : Nat := 9007199254740991
/-- What a text says: the number, and the error. -/
def readF (b : Nat) (l : List UInt8) : Nat × Nat := if l = [] then (0, 5) else if l.all (digB b) then (if valF b l ≤ Most then (valF b l, 0) else (0, 3)) else (0, 5)
/-- A number's digits. -/
def numG (b : Nat) : Nat → Nat → List UInt8
  | 0, _ => []
  | f + 1, n => if n < b then [dg n] else numG b f (n / b) ++ [dg (n % b)]
def numF (b n : Nat) : List UInt8 := numG b (n + 1) n

theorem worth_lt (c : UInt8) : worth c ≤ 99 := by
  unfold worth
  repeat' split
  all_goals omega
theorem worth_high (c : UInt8) (h : 128 ≤ c.toNat) : worth c = 99 := by
  unfold worth
  rw [if_neg (by omega), if_neg (by omega), if_neg (by omega)]
theorem worth_dg (d : Nat) (h : d < 16) : worth (dg d) = d := by
  have : ∀ d : Fin 16, worth (dg d.val) = d.val := by decide
  exact this ⟨d, h⟩
theorem valF_nil (b : Nat) : valF b [] = 0 := rfl
theorem valF_snoc (b : Nat) (l : List UInt8) (c : UInt8) : valF b (l ++ [c]) = valF b l * b + worth c := by simp [valF]
theorem foldl_more (b : Nat) : ∀ (l : List UInt8) (n : Nat), l.foldl (fun n c => n * b + worth c) n = n * b ^ l.length + valF b l
  | [], n => by simp [valF]
  | c :: l, n => by
    have h1 := foldl_more b l (n * b + worth c)
    have h2 := foldl_more b l (0 * b + worth c)
    rw [List.foldl_cons, h1]
    show _ = n * b ^ (l.length + 1) + (c :: l).foldl (fun n c => n * b + worth c) 0
    rw [List.foldl_cons, h2, Nat.zero_mul, Nat.zero_add, Nat.add_mul, Nat.pow_succ, Nat.mul_assoc, Nat.mul_comm b (b ^ l.length)]
    omega
theorem valF_append (b : Nat) (x y : List UInt8) : valF b (x ++ y) = valF b x * b ^ y.length + valF b y := by
  have := foldl_more b y (valF b x)
  rw [← this]
  simp [valF, List.foldl_append]
theorem valF_cons (b : Nat) (c : UInt8) (l : List UInt8) : valF b (c :: l) = worth c * b ^ l.length + valF b l := by
  have := valF_append b [c] l
  simpa [valF] using this
theorem valF_mono (b : Nat) (hb : 1 ≤ b) (x y : List UInt8) : valF b x ≤ valF b (x ++ y) := by
  rw [valF_append]
  have : 1 ≤ b ^ y.length := Nat.one_le_pow _ _ hb
  have := Nat.mul_le_mul_left (valF b x) this
  omega
theorem valF_noughts (b k : Nat) (l : List UInt8) : valF b (List.replicate k 48 ++ l) = valF b l := by
  induction k with
  | zero => simp
  | succ k ih =>
    rw [List.replicate_succ, List.cons_append, valF_cons, ih]
    have : worth 48 = 0 := by decide
    simp [this]
theorem valF_nought (b : Nat) (l : List UInt8) : valF b (48 :: l) = valF b l := by
  have := valF_noughts b 1 l
  simpa using this
theorem worth_pos (c : UInt8) (h : c ≠ 48) : 1 ≤ worth c := by
  have h' : c.toNat ≠ 48 := fun e => h (UInt8.toNat_inj.1 e)
  unfold worth
  repeat' split
  all_goals omega
theorem valF_long (b : Nat) (c : UInt8) (l : List UInt8) (h : c ≠ 48) : b ^ l.length ≤ valF b (c :: l) := by
  rw [valF_cons]
  have := Nat.mul_le_mul_right (b ^ l.length) (worth_pos c h)
  omega

theorem numG_fuel (b : Nat) (hb : 2 ≤ b) : ∀ (f g n : Nat), n < f → n < g → numG b f n = numG b g n
  | 0, _, _, h, _ => by omega
  | _ + 1, 0, _, _, h => by omega
  | f + 1, g + 1, n, hf, hg => by
    unfold numG
    by_cases hn : n < b
    · rw [if_pos hn, if_pos hn]
    · have hd : n / b < n := Nat.div_lt_self (by omega) (by omega)
      rw [if_neg hn, if_neg hn, numG_fuel b hb f g (n / b) (by omega) (by omega)]
theorem numF_small (b n : Nat) (h : n < b) : numF b n = [dg n] := by
  unfold numF numG
  rw [if_pos h]
theorem numF_great (b n : Nat) (hb : 2 ≤ b) (h : ¬ n < b) : numF b n = numF b (n / b) ++ [dg (n % b)] := by
  have hd : n / b < n := Nat.div_lt_self (by omega) (by omega)
  unfold numF
  rw [show numG b (n + 1) n = numG b n (n / b) ++ [dg (n % b)] from by rw [numG, if_neg h]]
  rw [numG_fuel b hb n (n / b + 1) (n / b) (by omega) (by omega)]
theorem numF_step (b v d : Nat) (hb : 2 ≤ b) (hv : 0 < v) (hd : d < b) : numF b (v * b + d) = numF b v ++ [dg d] := by
  have h1 : ¬ v * b + d < b := by
    have := Nat.mul_le_mul_right b hv
    omega
  have h2 : (v * b + d) / b = v := by
    rw [Nat.mul_comm, Nat.mul_add_div (by omega), Nat.div_eq_of_lt hd, Nat.add_zero]
  have h3 : (v * b + d) % b = d := by
    rw [Nat.mul_comm, Nat.mul_add_mod, Nat.mod_eq_of_lt hd]
  rw [numF_great b _ hb h1, h2, h3]
theorem numF_ne (b n : Nat) (hb : 2 ≤ b) : numF b n ≠ [] := by
  by_cases h : n < b
  · rw [numF_small b n h]; simp
  · rw [numF_great b n hb h]; simp
theorem numF_val (b : Nat) (hb : 2 ≤ b) (hb' : b ≤ 16) (n : Nat) : valF b (numF b n) = n ∧ (numF b n).all (digB b) = true := by
  induction n using Nat.strongRecOn with
  | ind n ih =>
    by_cases h : n < b
    · rw [numF_small b n h]
      refine ⟨?_, ?_⟩
      · simp [valF, worth_dg n (by omega)]
      · simp [digB, worth_dg n (by omega), h]
    · have hd : n / b < n := Nat.div_lt_self (by omega) (by omega)
      obtain ⟨h1, h2⟩ := ih _ hd
      have hm : n % b < b := Nat.mod_lt _ (by omega)
      rw [numF_great b n hb h]
      refine ⟨?_, ?_⟩
      · rw [valF_snoc, h1, worth_dg _ (by omega), Nat.mul_comm]
        exact Nat.div_add_mod n b
      · rw [List.all_append, h2]
        simp [digB, worth_dg _ (show n % b < 16 by omega), hm]

/-- Small letters. -/
def lowD (c : UInt8) : UInt8 := if 65 ≤ c.toNat ∧ c.toNat ≤ 90 then c + 32 else c
theorem byte_every (P : UInt8 → Bool) (h : (List.range 256).all (fun n => P (UInt8.ofNat n)) = true) (c : UInt8) : P c = true := by
  have := List.all_eq_true.1 h c.toNat (by simpa using UInt8.toNat_lt c)
  simpa using this
theorem dg_worth (c : UInt8) (h : worth c < 16) : dg (worth c) = lowD c := by
  have := byte_every (fun c => decide (worth c < 16 → dg (worth c) = lowD c)) (by decide +kernel) c
  simpa using (of_decide_eq_true this) h
theorem lowD_ten (c : UInt8) (h : worth c < 10) : lowD c = c := by
  have := byte_every (fun c => decide (worth c < 10 → lowD c = c)) (by decide +kernel) c
  simpa using (of_decide_eq_true this) h
/-- What was read, written again. -/
theorem numF_read (b : Nat) (hb : 2 ≤ b) (hb' : b ≤ 16) (c : UInt8) (hc : c ≠ 48) : ∀ (n : Nat) (l : List UInt8), l.length = n → ((c :: l).all (digB b)) = true → numF b (valF b (c :: l)) = (c :: l).map lowD
  | 0, l, hl, h => by
    obtain rfl : l = [] := List.eq_nil_of_length_eq_zero hl
    simp only [List.all_cons, List.all_nil, Bool.and_true, digB, decide_eq_true_eq] at h
    rw [show valF b [c] = worth c from by simp [valF], numF_small b _ h, dg_worth c (by omega)]
    rfl
  | n + 1, l, hl, h => by
    obtain ⟨m, d, rfl⟩ : ∃ m d, l = m ++ [d] := ⟨l.dropLast, l.getLast (by rintro rfl; simp at hl), (List.dropLast_concat_getLast _).symm⟩
    have hm : m.length = n := by simpa using hl
    rw [← List.cons_append, List.all_append] at h
    simp only [Bool.and_eq_true] at h
    obtain ⟨h1, h2⟩ := h
    have ih := numF_read b hb hb' c hc n m hm h1
    simp only [List.all_cons, List.all_nil, Bool.and_true, digB, decide_eq_true_eq] at h2
    have hp : 0 < valF b (c :: m) := Nat.lt_of_lt_of_le (Nat.pow_pos (by omega)) (valF_long b c m hc)
    rw [← List.cons_append, valF_snoc, numF_step b _ _ hb hp h2, ih, dg_worth d (by omega)]
    simp
/-- A text without the noughts that it begins with. -/
def bareF (l : List UInt8) : List UInt8 := l.dropWhile (· == 48)
theorem bareF_val (b : Nat) : ∀ l : List UInt8, valF b (bareF l) = valF b l
  | [] => rfl
  | c :: l => by
    unfold bareF
    by_cases h : c = 48
    · subst h
      rw [List.dropWhile_cons_of_pos (by simp)]
      have := bareF_val b l
      unfold bareF at this
      rw [this, valF_nought]
    · rw [List.dropWhile_cons_of_neg (by simpa using h)]
theorem bareF_all (b : Nat) (l : List UInt8) (h : l.all (digB b) = true) : (bareF l).all (digB b) = true := by
  rw [List.all_eq_true] at h ⊢
  exact fun c hc => h c (List.dropWhile_suffix _ |>.subset hc)
theorem bareF_head (l m : List UInt8) (c : UInt8) (h : bareF l = c :: m) : c ≠ 48 := by
  have := List.head?_dropWhile_not (p := (· == (48 : UInt8))) (l := l)
  unfold bareF at h
  rw [h] at this
  simpa using this
/-- What is read, written, is the text without the noughts ahead. -/
theorem numF_back (b : Nat) (hb : 2 ≤ b) (hb' : b ≤ 16) (l : List UInt8) (h : l.all (digB b) = true) : numF b (valF b l) = if bareF l = [] then [48] else (bareF l).map lowD := by
  rw [← bareF_val]
  cases hl : bareF l with
  | nil =>
    rw [if_pos rfl, valF_nil, numF_small b 0 (by omega)]
    rfl
  | cons c m =>
    rw [if_neg (by simp)]
    have h1 := bareF_all b l h
    rw [hl] at h1
    exact numF_read b hb hb' c (bareF_head l m c hl) m.length m rfl h1

theorem dec_numF (u : Nat) : Lib.decDigits u = numF 10 u := by
  induction u using Nat.strongRecOn with
  | ind n ih =>
    rw [Lib.decDigits]
    have hd : ∀ d, d < 10 → dg d = UInt8.ofNat (48 + d) := fun d hd => by unfold dg; rw [if_pos hd]
    split
    · rename_i h
      rw [numF_small 10 n h, hd n h]
    · rename_i h
      rw [ih _ (Nat.div_lt_self (by omega) (by omega)), numF_great 10 n (by omega) h, hd _ (Nat.mod_lt _ (by omega))]

theorem readF_ok (b : Nat) (l : List UInt8) (h0 : l ≠ []) (h1 : l.all (digB b) = true) (h2 : valF b l ≤ Most) : readF b l = (valF b l, 0) := by
  unfold readF
  rw [if_neg h0, if_pos h1, if_pos h2]
theorem readF_long (b : Nat) (l : List UInt8) (h0 : l ≠ []) (h1 : l.all (digB b) = true) (h2 : ¬ valF b l ≤ Most) : readF b l = (0, 3) := by
  unfold readF
  rw [if_neg h0, if_pos h1, if_neg h2]
theorem readF_form (b : Nat) (l : List UInt8) (c : UInt8) (k : Nat) (h : l[k]? = some c) (hc : ¬ worth c < b) : readF b l = (0, 5) := by
  unfold readF
  by_cases h0 : l = []
  · rw [if_pos h0]
  · rw [if_neg h0, if_neg]
    intro h1
    have := List.all_eq_true.1 h1 c (List.mem_of_getElem? h)
    exact hc (by simpa [digB] using this)
end Go.Proofs.YtdcbcjljmjnopaaGreatDoor
