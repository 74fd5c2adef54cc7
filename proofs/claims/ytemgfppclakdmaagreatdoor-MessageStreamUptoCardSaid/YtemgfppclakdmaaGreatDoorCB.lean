/-
  Plain mathematics of coded bodies: how parts are coded; what was coded is taken back; of a beginning more is wanted.
  Conditions: those that each theorem names.
-/
import Derived.Test.YtemgfppclakdmaaGreatDoorCA
import Derived.Test.YtemgfppclakdmaaGreatDoorHO
namespace Go.Proofs.YtemgfppclakdmaaGreatDoor
open Go.RowKit

def chunkF (p : List UInt8) : List UInt8 := if p = [] then [] else numF 16 p.length ++ ([13, 10] ++ (p ++ [13, 10]))
def endC : List UInt8 := [48, 13, 10, 13, 10]
def codedF (ps : List (List UInt8)) : List UInt8 := ps.flatMap chunkF ++ endC
def totalF (ps : List (List UInt8)) : Nat := (ps.map List.length).sum
/-- What Put tells. -/
def putC (ps : List (List UInt8)) : List UInt8 × Nat := if 4096 < totalF ps then ([], 21) else (codedF ps, 0)

theorem hex_byte (c : UInt8) (h : digB 16 c = true) : c ≠ 10 ∧ c ≠ 13 ∧ c ≠ 59 := by
  have k : ∀ n : Fin 256, digB 16 (UInt8.ofNat n.val) = true → UInt8.ofNat n.val ≠ 10 ∧ UInt8.ofNat n.val ≠ 13 ∧ UInt8.ofNat n.val ≠ 59 := by decide +kernel
  have := k ⟨c.toNat, c.toNat_lt⟩
  simp only [UInt8.ofNat_toNat] at this
  exact this h
theorem hex_length (m : Nat) (h : m < 65536) : (numF 16 m).length ≤ 4 := by
  have step : ∀ n, ¬ n < 16 → (numF 16 n).length = (numF 16 (n / 16)).length + 1 := fun n hn => by
    rw [numF_great 16 n (by omega) hn, List.length_append]; rfl
  have one : ∀ n, n < 16 → (numF 16 n).length = 1 := fun n hn => by rw [numF_small 16 n hn]; rfl
  by_cases h1 : m < 16
  · rw [one m h1]; omega
  · rw [step m h1]
    by_cases h2 : m / 16 < 16
    · rw [one _ h2]; omega
    · rw [step _ h2]
      by_cases h3 : m / 16 / 16 < 16
      · rw [one _ h3]; omega
      · rw [step _ h3, one _ (by omega)]; omega
theorem hex_all (m : Nat) : ∀ c ∈ numF 16 m, digB 16 c = true := List.all_eq_true.1 (numF_val 16 (by omega) (by omega) m).2
theorem hex_read (m : Nat) (h : m ≤ 4096) : readF 16 (numF 16 m) = (m, 0) := by
  obtain ⟨h1, h2⟩ := numF_val 16 (by omega) (by omega) m
  rw [readF_ok 16 _ (numF_ne 16 m (by omega)) h2 (by rw [h1]; unfold Most; omega), h1]
theorem drop_plain (l : List UInt8) (h : ∀ c ∈ l, c ≠ 59) : l.dropWhile (· != 59) = [] ∧ l.takeWhile (· != 59) = l := by
  induction l with
  | nil => exact ⟨rfl, rfl⟩
  | cons c r ih =>
    have hc : (c != 59) = true := by simpa using h c (by simp)
    obtain ⟨h1, h2⟩ := ih (fun d hd => h d (by simp [hd]))
    rw [List.dropWhile_cons, if_pos hc, List.takeWhile_cons, if_pos hc, h1, h2]
    exact ⟨rfl, rfl⟩
theorem size_hex (m : Nat) (h : m ≤ 4096) : sizeF (numF 16 m ++ [13]) = (m, 0) := by
  obtain ⟨h1, h2⟩ := drop_plain (numF 16 m) (fun c hc => (hex_byte c (hex_all m c hc)).2.2)
  unfold sizeF
  rw [if_neg (by simp), List.dropLast_concat, h1, h2, hex_read m h]
  simp
/-- A line's place. -/
theorem lf_line (x r : List UInt8) (hx : ∀ c ∈ x, c ≠ 10) (hl : x.length < 64) : lfF 64 (x ++ 10 :: r) = some x.length := by
  refine lf_of 64 _ _ hl ?_ (fun j hj => ?_)
  · rw [List.getElem?_append_right (by omega), Nat.sub_self]; rfl
  · rw [List.getElem?_append_left hj]
    intro h
    exact hx 10 (List.mem_of_getElem? h) rfl
theorem lf_short (x : List UInt8) (hx : ∀ c ∈ x, c ≠ 10) : lfF 64 x = none := by
  rw [lf_none]
  intro j _ h
  exact hx 10 (List.mem_of_getElem? h) rfl
theorem line_free (m : Nat) : ∀ c ∈ numF 16 m ++ [13], c ≠ 10 := by
  intro c hc
  rcases List.mem_append.1 hc with h | h
  · exact (hex_byte c (hex_all m c h)).1
  · rw [List.mem_singleton.1 h]; decide
theorem chunk_spelt (p r : List UInt8) (h : p ≠ []) : chunkF p ++ r = (numF 16 p.length ++ [13]) ++ 10 :: (p ++ ([13, 10] ++ r)) := by
  unfold chunkF
  rw [if_neg h]
  simp
/-- One chunk is taken. -/
theorem take_chunk (f at0 : Nat) (body p r : List UInt8) (hp : p ≠ []) (hs : body.length + p.length ≤ 4096) :
    takeG (f + 1) at0 body (chunkF p ++ r) = takeG f (at0 + (chunkF p).length) (body ++ p) r := by
  have hlen : (chunkF p).length = (numF 16 p.length ++ [13]).length + 1 + p.length + 2 := by
    unfold chunkF
    rw [if_neg hp]
    simp
    omega
  have hhex := hex_length p.length (by omega)
  have hp0 : p.length ≠ 0 := fun e => hp (List.eq_nil_of_length_eq_zero e)
  rw [hlen, chunk_spelt p r hp]
  have hlf := lf_line (numF 16 p.length ++ [13]) (p ++ ([13, 10] ++ r)) (line_free p.length) (by rw [List.length_append]; simp; omega)
  generalize hX : numF 16 p.length ++ [13] = X at *
  have hsz : sizeF X = (p.length, 0) := by rw [← hX]; exact size_hex p.length (by omega)
  have t1 : (X ++ 10 :: (p ++ ([13, 10] ++ r))).take X.length = X := List.take_left' rfl
  have t2 : (X ++ 10 :: (p ++ ([13, 10] ++ r))).drop (X.length + 1) = p ++ ([13, 10] ++ r) := by
    rw [← List.drop_drop, List.drop_left' rfl]; rfl
  have t3 : (X ++ 10 :: (p ++ ([13, 10] ++ r))).drop (X.length + 1 + p.length + 2) = r := by
    rw [show X.length + 1 + p.length + 2 = X.length + 1 + (p.length + 2) by omega, ← List.drop_drop, t2, ← List.drop_drop, List.drop_left' rfl]; rfl
  have g1 : (X ++ 10 :: (p ++ ([13, 10] ++ r)))[X.length + 1 + p.length]? = some 13 := by
    have := congrArg (fun l => l[p.length]?) t2
    simp only [List.getElem?_drop] at this
    rw [this, List.getElem?_append_right (by omega), Nat.sub_self]; rfl
  have g2 : (X ++ 10 :: (p ++ ([13, 10] ++ r)))[X.length + 1 + p.length + 1]? = some 10 := by
    have := congrArg (fun l => l[p.length + 1]?) t2
    simp only [List.getElem?_drop] at this
    rw [show X.length + 1 + p.length + 1 = X.length + 1 + (p.length + 1) by omega, this, List.getElem?_append_right (by omega), show p.length + 1 - p.length = 1 by omega]; rfl
  rw [takeG_some (n := p.length) (e := 0) hlf (by rw [t1]; exact hsz), if_neg (by simp), if_neg (by omega), if_neg hp0, if_neg (by simp; omega), if_neg (by rw [g1, g2]; simp), t2, t3, List.take_left' rfl]
theorem parse_end (t : List UInt8) : parseH (13 :: 10 :: t) = ([], 2, 0) := by
  have h := parse_put [] t (by decide)
  exact h
theorem take_end (f at0 : Nat) (body t : List UInt8) (hs : body.length ≤ 4096) : takeG (f + 1) at0 body (endC ++ t) = (body, at0 + 5, 0) := by
  unfold endC
  have hlf : lfF 64 ([48, 13, 10, 13, 10] ++ t) = some 2 := lf_line [48, 13] (13 :: 10 :: t) (by decide) (by decide)
  have t1 : ([48, 13, 10, 13, 10] ++ t).take 2 = [48, 13] := rfl
  have t2 : ([48, 13, 10, 13, 10] ++ t).drop (2 + 1) = 13 :: 10 :: t := rfl
  have hsz : sizeF [48, 13] = (0, 0) := by decide +kernel
  rw [takeG_some (n := 0) (e := 0) hlf (by rw [t1]; exact hsz), if_neg (by simp), if_neg (by omega), if_pos rfl, t2, parse_end, if_pos rfl]
  rfl
/-- What was coded is taken back. -/
theorem take_coded (t : List UInt8) : ∀ (ps : List (List UInt8)) (f at0 : Nat) (body : List UInt8), ps.length < f → body.length + totalF ps ≤ 4096 → takeG f at0 body (codedF ps ++ t) = (body ++ ps.flatten, at0 + (codedF ps).length, 0)
  | _, 0, _, _, h, _ => by omega
  | [], f + 1, at0, body, _, h2 => by
    have := take_end f at0 body t (by simpa [totalF] using h2)
    simpa [codedF, endC] using this
  | p :: ps, f + 1, at0, body, h1, h2 => by
    have h3 : body.length + (p.length + totalF ps) ≤ 4096 := by simpa [totalF] using h2
    by_cases hp : p = []
    · subst hp
      have e : codedF ([] :: ps) = codedF ps := by simp [codedF, chunkF]
      rw [e]
      have h4 : ps.length < f := by simpa using h1
      have := take_coded t ps f at0 body h4 (by simpa using h3)
      have hlen : ps.length < f + 1 := by omega
      rw [take_coded t ps (f + 1) at0 body hlen (by simpa using h3)]
      simp
    · have e : codedF (p :: ps) ++ t = chunkF p ++ (codedF ps ++ t) := by simp [codedF]
      rw [e, take_chunk f at0 body p _ hp (by omega), take_coded t ps f _ (body ++ p) (by simpa using h1) (by rw [List.length_append]; omega)]
      have e2 : (codedF (p :: ps)).length = (chunkF p).length + (codedF ps).length := by simp [codedF]
      rw [e2, List.flatten_cons, List.append_assoc, Nat.add_assoc]

theorem take_prefix (ps : List (List UInt8)) : ∀ (f at0 j : Nat) (body : List UInt8), body.length + totalF ps ≤ 4096 → j < (codedF ps).length → takeG f at0 body ((codedF ps).take j) = ([], 0, 8) := by
  induction ps with
  | nil =>
    intro f at0 j body hb hj
    cases f with
    | zero => rfl
    | succ f =>
      have hb0 : body.length ≤ 4096 := by simpa [totalF] using hb
      have hc : codedF [] = [48, 13, 10, 13, 10] := rfl
      rw [hc] at hj ⊢
      have hj5 : j < 5 := hj
      have hsz : sizeF [48, 13] = (0, 0) := by decide +kernel
      obtain rfl | rfl | rfl | rfl | rfl : j = 0 ∨ j = 1 ∨ j = 2 ∨ j = 3 ∨ j = 4 := by omega
      · rw [takeG_none (by decide)]; rfl
      · rw [takeG_none (by decide)]; rfl
      · rw [takeG_none (by decide)]; rfl
      · rw [takeG_some (l := ([48, 13, 10, 13, 10] : List UInt8).take 3) (k := 2) (n := 0) (e := 0) (by decide) hsz, if_neg (by simp), if_neg (by omega), if_pos rfl]
        rfl
      · rw [takeG_some (l := ([48, 13, 10, 13, 10] : List UInt8).take 4) (k := 2) (n := 0) (e := 0) (by decide) hsz, if_neg (by simp), if_neg (by omega), if_pos rfl]
        rfl
  | cons p ps ih =>
    intro f at0 j body hb hj
    have h3 : body.length + (p.length + totalF ps) ≤ 4096 := by simpa [totalF] using hb
    by_cases hp : p = []
    · subst hp
      have e : codedF ([] :: ps) = codedF ps := by simp [codedF, chunkF]
      rw [e] at hj ⊢
      exact ih f at0 j body (by simpa using h3) hj
    · cases f with
      | zero => rfl
      | succ f =>
        have e : codedF (p :: ps) = chunkF p ++ codedF ps := by simp [codedF]
        rw [e] at hj ⊢
        by_cases hge : (chunkF p).length ≤ j
        · rw [List.take_append, List.take_of_length_le hge, take_chunk f at0 body p _ hp (by omega)]
          exact ih f _ _ _ (by rw [List.length_append]; omega) (by rw [List.length_append] at hj; omega)
        · rw [List.take_append_of_le_length (by omega)]
          have hhex := hex_length p.length (by omega)
          have hp0 : p.length ≠ 0 := fun e => hp (List.eq_nil_of_length_eq_zero e)
          have hs := chunk_spelt p [] hp
          simp only [List.append_nil] at hs
          have hlen : (chunkF p).length = (numF 16 p.length ++ [13]).length + 1 + p.length + 2 := by rw [hs]; simp; omega
          have hfree := line_free p.length
          have hX64 : (numF 16 p.length ++ [13]).length < 64 := by rw [List.length_append]; simp; omega
          have hsz := size_hex p.length (by omega)
          rw [hs]
          rw [hlen] at hge
          generalize numF 16 p.length ++ [13] = X at *
          by_cases hx : j ≤ X.length
          · have e1 : (X ++ 10 :: (p ++ [13, 10])).take j = X.take j := List.take_append_of_le_length hx
            rw [e1, takeG_none (lf_short _ (fun c hc => hfree c (List.mem_of_mem_take hc))), if_neg (by rw [List.length_take]; omega)]
          · obtain ⟨i, rfl⟩ : ∃ i, j = X.length + (i + 1) := ⟨j - X.length - 1, by omega⟩
            have e1 : (X ++ 10 :: (p ++ [13, 10])).take (X.length + (i + 1)) = X ++ 10 :: (p ++ [13, 10]).take i := by
              rw [List.take_append, List.take_of_length_le (by omega), Nat.add_sub_cancel_left, List.take_succ_cons]
            rw [e1, takeG_some (n := p.length) (e := 0) (lf_line X _ hfree hX64) (by rw [List.take_left' rfl]; exact hsz), if_neg (by simp), if_neg (by omega), if_neg hp0, if_pos]
            rw [List.length_append, List.length_cons, List.length_take]
            omega
theorem coded_length (ps : List (List UInt8)) : 5 ≤ (codedF ps).length := by
  unfold codedF endC
  rw [List.length_append]
  simp
end Go.Proofs.YtemgfppclakdmaaGreatDoor
