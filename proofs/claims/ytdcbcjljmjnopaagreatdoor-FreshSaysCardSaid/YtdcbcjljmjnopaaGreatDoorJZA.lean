/-
  What the law FreshSays writes numbers with.
  Conditions: the number has 32 bits.
-/
import Derived.Test.YtdcbcjljmjnopaaGreatDoorJA
import Derived.Test.YtdcbcjljmjnopaaGreatDoorPB
import Derived.Test.YtdcbcjljmjnopaaGreatDoorVE
import Derived.Test.YtdcbcjljmjnopaaGreatDoorJE
namespace Go.Proofs.YtdcbcjljmjnopaaGreatDoor.Fre
open Go.RowKit Hop Con

def bigC : List UInt8 := [67, 97, 99, 104, 101, 45, 67, 111, 110, 116, 114, 111, 108]
def bigS : List UInt8 := [83, 45, 77, 97, 120, 65, 103, 101]
def maxP (n : Nat) : List UInt8 := ageN ++ 61 :: numF 10 n
def sharedP (n : Nat) : List UInt8 := bigS ++ 61 :: numF 10 n
def restF (ls : List Fld) : List Fld := ls.filter fun f => decide (f.1.length ≠ 13)
def oneL (ls : List Fld) (n : Nat) : List Fld := restF ls ++ [(bigC, maxP n)]
def bothL (ls : List Fld) (s n : Nat) : List Fld := [(ccN, sharedP s)] ++ oneL ls n

theorem plain_list (l : List UInt8) (h0 : l ≠ []) (h : ∀ c ∈ l, c ≠ 34 ∧ c ≠ 44 ∧ blankB c = false) : listF l = [l] := by
  have hw : Whole1 l := Whole1.all l fun c hc => ⟨(h c hc).1, (h c hc).2.1⟩
  have := hw [] []
  rw [List.append_nil, List.nil_append, partsF_nil] at this
  have hb : Bare l := ⟨fun c r e => (h c (by rw [e]; simp)).2.2, fun c r e => (h c (by rw [e]; simp)).2.2⟩
  rw [listF_eq, this, elemsOf_cons, trim_bare l hb, if_neg h0]
  rfl
theorem eq_app (t : List UInt8) : ∀ k : List UInt8, (∀ c ∈ k, c ≠ 61) → eqAt (k ++ 61 :: t) = k.length
  | [], _ => by simp [eqAt, List.findIdx_cons]
  | c :: k, h => by
    have h1 := eq_app t k (fun d hd => h d (by simp [hd]))
    have h2 : (c == 61) = false := by simpa using h c (by simp)
    unfold eqAt at *
    rw [List.cons_append, List.findIdx_cons, h2, List.length_cons]
    simp only [cond_false]
    omega
theorem dig_tok (c : UInt8) (h : digB 10 c = true) : tokB c = true := by
  have := byte_all (fun c => !digB 10 c || tokB c) (by decide +kernel) c
  rw [h] at this
  simpa using this
theorem num_tok (n : Nat) : tokF (numF 10 n) = true := by
  have h1 := (numF_val 10 (by omega) (by omega) n).2
  have h2 := numF_ne 10 n (by omega)
  unfold tokF
  rw [show (numF 10 n).isEmpty = false by simpa using h2, List.all_eq_true.2 (fun c hc => dig_tok c (List.all_eq_true.1 h1 c hc))]
  rfl
theorem pair_num (k : List UInt8) (hk : tokF k = true) (n : Nat) : pairF (k ++ 61 :: numF 10 n) = some (lowF k, numF 10 n) := by
  have he := eq_app (numF 10 n) k (fun c hc => (tokB_facts c ((tok_mem k hk).2 c hc)).2.2.2.2.2.1)
  have hd : (k ++ 61 :: numF 10 n).drop (k.length + 1) = numF 10 n := by simp
  have ht : (k ++ 61 :: numF 10 n).take k.length = k := by simp
  unfold pairF
  rw [he, hd, ht, if_neg (by rw [hk]; simp), if_neg (by simp), if_pos (num_tok n)]
theorem list_num (k : List UInt8) (hk : tokF k = true) (n : Nat) : listF (k ++ 61 :: numF 10 n) = [k ++ 61 :: numF 10 n] := by
  refine plain_list _ (by simp) (fun c hc => ?_)
  have ht : ∀ d, tokB d = true → d ≠ 34 ∧ d ≠ 44 ∧ blankB d = false := fun d hd => by
    obtain ⟨_, _, h3, h4, h5, _⟩ := tokB_facts d hd
    exact ⟨h4, h5, h3⟩
  rcases List.mem_append.1 hc with h | h
  · exact ht c ((tok_mem k hk).2 c h)
  · rcases List.mem_cons.1 h with rfl | h
    · decide
    · exact ht c ((tok_mem _ (num_tok n)).2 c h)
theorem num_len (n : Nat) (h : n ≤ Top) : (numF 10 n).length ≤ 10 := (fixF_num 10 n (by omega) (by unfold Top at h; omega)).2
theorem cap_num (n : Nat) (h : n ≤ Top) : capN (numF 10 n) = n := by
  have h1 := numF_val 10 (by omega) (by omega) n
  unfold capN
  rw [if_neg (numF_ne 10 n (by omega)), if_pos h1.2, h1.1]
  omega
theorem rest_none : ∀ ls : List Fld, getF (restF ls) ccN = []
  | [] => rfl
  | f :: r => by
    have h := rest_none r
    unfold restF at *
    rw [List.filter_cons]
    split
    · rename_i hf
      rw [show f :: (r.filter fun f => decide (f.1.length ≠ 13)) = [f] ++ _ from rfl, get_app, h, get_one, if_neg]
      · rfl
      · intro he
        have h1 := congrArg List.length (eq_of_beq he)
        rw [lowF_length, lowF_length] at h1
        have h2 : f.1.length ≠ 13 := of_decide_eq_true hf
        exact h2 h1
    · exact h
theorem one_get (ls : List Fld) (n : Nat) : getF (oneL ls n) ccN = [maxP n] := by
  unfold oneL
  rw [get_app, rest_none, get_one, if_pos (by show (lowF bigC == lowF ccN) = true; decide)]
  rfl
theorem both_get (ls : List Fld) (s n : Nat) : getF (bothL ls s n) ccN = [sharedP s, maxP n] := by
  unfold bothL
  rw [get_app, one_get, get_one, if_pos (by show (lowF ccN == lowF ccN) = true; decide)]
  rfl
theorem one_elem (ls : List Fld) (n : Nat) : elemF (oneL ls n) ccN = [maxP n] := by
  unfold elemF
  rw [one_get, List.flatMap_cons, List.flatMap_nil, List.append_nil]
  exact list_num ageN (by decide) n
theorem both_elem (ls : List Fld) (s n : Nat) : elemF (bothL ls s n) ccN = [sharedP s, maxP n] := by
  unfold elemF
  rw [both_get, List.flatMap_cons, List.flatMap_cons, List.flatMap_nil, List.append_nil, show listF (sharedP s) = [sharedP s] from list_num bigS (by decide) s, show listF (maxP n) = [maxP n] from list_num ageN (by decide) n]
  rfl
theorem max_pair (n : Nat) : pairF (maxP n) = some (ageN, numF 10 n) := by
  unfold maxP
  rw [pair_num ageN (by decide), show lowF ageN = ageN by decide]
theorem shared_pair (n : Nat) : pairF (sharedP n) = some (sharedN, numF 10 n) := by
  unfold sharedP
  rw [pair_num bigS (by decide), show lowF bigS = sharedN by decide]
theorem numD_age (n : Nat) (h : n ≤ Top) : numD (ageN, numF 10 n) = n := by
  unfold numD
  rw [if_neg (fun h => absurd h.1 (show ¬ ageN = staleN by decide))]
  exact cap_num n h
theorem numD_shared (n : Nat) (h : n ≤ Top) : numD (sharedN, numF 10 n) = n := by
  unfold numD
  rw [if_neg (fun h => absurd h.1 (show ¬ sharedN = staleN by decide))]
  exact cap_num n h
theorem one_says (ls : List Fld) (n : Nat) (h : n ≤ Top) : (responseF (oneL ls n)).sh = -1 ∧ (responseF (oneL ls n)).ma = n := by
  have hd : dirsF (elemF (oneL ls n) ccN) = [(ageN, numF 10 n)] := by
    rw [one_elem]
    unfold dirsF
    rw [List.filterMap_cons, max_pair]
    rfl
  have h1 : (responseF (oneL ls n)).sh = -1 := by
    show nF false (dirsF (elemF (oneL ls n) ccN)) sharedN = -1
    rw [hd]
    show intO (sayStep false sharedN none (ageN, numF 10 n)) = -1
    unfold sayStep
    rw [if_neg (by show ¬ (ageN == sharedN) = true; decide)]
    rfl
  have h2 : (responseF (oneL ls n)).ma = n := by
    show nF false (dirsF (elemF (oneL ls n) ccN)) ageN = n
    rw [hd]
    show intO (sayStep false ageN none (ageN, numF 10 n)) = n
    unfold sayStep
    rw [if_pos (by show (ageN == ageN) = true; decide)]
    show ((numD (ageN, numF 10 n) : Nat) : Int) = n
    rw [numD_age n h]
  exact ⟨h1, h2⟩
theorem one_life (st : Int) (ls : List Fld) (n : Nat) (h : n ≤ Top) : lifeF st (oneL ls n) = ((n : Int), true) := by
  obtain ⟨h1, h2⟩ := one_says ls n h
  unfold lifeF
  rw [h1, h2, if_neg (by omega), if_pos (by omega)]
theorem both_says (ls : List Fld) (s n : Nat) (hs : s ≤ Top) : (responseF (bothL ls s n)).sh = s := by
  have hd : dirsF (elemF (bothL ls s n) ccN) = [(sharedN, numF 10 s), (ageN, numF 10 n)] := by
    rw [both_elem]
    unfold dirsF
    rw [List.filterMap_cons, shared_pair]
    show (sharedN, numF 10 s) :: List.filterMap pairF [maxP n] = _
    rw [List.filterMap_cons, max_pair]
    rfl
  have h1 : (responseF (bothL ls s n)).sh = s := by
    show nF false (dirsF (elemF (bothL ls s n) ccN)) sharedN = s
    rw [hd]
    show intO (sayStep false sharedN (sayStep false sharedN none (sharedN, numF 10 s)) (ageN, numF 10 n)) = s
    have e1 : sayStep false sharedN none (sharedN, numF 10 s) = some s := by
      unfold sayStep
      rw [if_pos (by show (sharedN == sharedN) = true; decide)]
      show some (numD (sharedN, numF 10 s)) = some s
      rw [numD_shared s hs]
    rw [e1]
    unfold sayStep
    rw [if_neg (by show ¬ (ageN == sharedN) = true; decide)]
    rfl
  exact h1
theorem both_life (st : Int) (ls : List Fld) (s n : Nat) (hs : s ≤ Top) : lifeF st (bothL ls s n) = ((s : Int), true) := by
  have h1 := both_says ls s n hs
  unfold lifeF
  rw [h1, if_pos (by omega)]
theorem rest_len (ls : List Fld) : (restF ls).length ≤ ls.length := List.length_filter_le _ _
theorem rest_snoc (ls : List Fld) (f : Fld) : restF (ls ++ [f]) = restF ls ++ (if decide (f.1.length ≠ 13) = true then [f] else []) := by
  unfold restF
  rw [List.filter_append, List.filter_cons]
  rfl
theorem rest_slim {ls : List Fld} (h : Slim ls) : SlimB (restF ls) := fun f hf => h.b f (List.mem_filter.1 hf).1
theorem one_slim {ls : List Fld} (h : Slim ls) (n : Nat) (hn : n ≤ Top) : SlimB (oneL ls n) := fun f hf => by
  rcases List.mem_append.1 hf with hf | hf
  · exact rest_slim h f hf
  · obtain rfl : f = (bigC, maxP n) := by simpa using hf
    have h1 : (maxP n).length ≤ 18 := by
      have := num_len n hn
      simp only [maxP, ageN, List.length_append, List.length_cons, List.length_nil]
      omega
    exact ⟨by show bigC.length ≤ _; decide, by show (maxP n).length ≤ _; omega⟩
theorem both_slim {ls : List Fld} (h : Slim ls) (s n : Nat) (hs : s ≤ Top) (hn : n ≤ Top) : SlimB (bothL ls s n) := fun f hf => by
  rcases List.mem_append.1 hf with hf | hf
  · obtain rfl : f = (ccN, sharedP s) := by simpa using hf
    have h1 : (sharedP s).length ≤ 19 := by
      have := num_len s hs
      simp only [sharedP, bigS, List.length_append, List.length_cons, List.length_nil]
      omega
    exact ⟨by show ccN.length ≤ _; decide, by show (sharedP s).length ≤ _; omega⟩
  · exact one_slim h n hn f hf
theorem few_of {ls : List Fld} (xs : List (List UInt8)) (hl : ls.length * 32 ≤ 140737488355328) (hs : SlimB ls) (hg : getF ls ccN = xs) (he : elemF ls ccN = xs) (h : xs.length ≤ 2) (hx : ∀ x ∈ xs, x.length ≤ 1000) : Few ls ccN :=
  ⟨hl, hs, by rw [hg]; omega, by rw [hg]; exact fun x h => by have := hx x h; omega, by rw [he]; omega, by rw [he]; exact fun x h => by have := hx x h; omega⟩
theorem maxP_len (n : Nat) (h : n ≤ Top) : (maxP n).length ≤ 18 := by
  have := num_len n h
  simp only [maxP, ageN, List.length_append, List.length_cons, List.length_nil]
  omega
theorem sharedP_len (n : Nat) (h : n ≤ Top) : (sharedP n).length ≤ 19 := by
  have := num_len n h
  simp only [sharedP, bigS, List.length_append, List.length_cons, List.length_nil]
  omega
theorem one_few (ls : List Fld) (n : Nat) (h : n ≤ Top) (hl : (oneL ls n).length * 32 ≤ 140737488355328) (hs : SlimB (oneL ls n)) : Few (oneL ls n) ccN :=
  few_of [maxP n] hl hs (one_get ls n) (one_elem ls n) (by simp) (fun x hx => by
    obtain rfl : x = maxP n := by simpa using hx
    have := maxP_len n h
    omega)
theorem both_few (ls : List Fld) (s n : Nat) (hs' : s ≤ Top) (h : n ≤ Top) (hl : (bothL ls s n).length * 32 ≤ 140737488355328) (hs : SlimB (bothL ls s n)) : Few (bothL ls s n) ccN :=
  few_of [sharedP s, maxP n] hl hs (both_get ls s n) (both_elem ls s n) (by simp) (fun x hx => by
    have h1 := maxP_len n h
    have h2 := sharedP_len s hs'
    rcases List.mem_cons.1 hx with rfl | hx
    · omega
    · obtain rfl : x = maxP n := by simpa using hx
      omega)
end Go.Proofs.YtdcbcjljmjnopaaGreatDoor.Fre

namespace Go.Proofs.YtdcbcjljmjnopaaGreatDoor.Fre
open Go.RowKit Hop Con

theorem dg_low (d : Nat) (h : d < 10) : (dg d).toNat = 48 + d := by
  have : ∀ d : Fin 10, (dg d.val).toNat = 48 + d.val := by decide
  exact this ⟨d, h⟩
theorem encode_one (c : UInt8) (h : c.toNat < 128) : Utf8.encode (c.toNat : Int) = ⟨#[c]⟩ := by
  have := byte_every (fun c => decide (c.toNat < 128 → Utf8.encode (c.toNat : Int) = ⟨#[c]⟩)) (by decide +kernel) c
  exact (of_decide_eq_true this) h
theorem one_append (c : UInt8) (l : List UInt8) : (⟨#[c]⟩ : ByteArray) ++ ⟨l.toArray⟩ = ⟨(c :: l).toArray⟩ := by
  have h : bl ((⟨#[c]⟩ : ByteArray) ++ ⟨l.toArray⟩) = c :: l := by simp [bl, ByteArray.data_append]
  rw [← mk_bl ((⟨#[c]⟩ : ByteArray) ++ ⟨l.toArray⟩), h]
theorem tail_short (n m : Nat) (l : List UInt8) (hn : n < 4294967296) (h : numF 10 n = numF 10 m ++ l) : l.length ≤ 10 := by
  have h1 := (fixF_num 10 n (by omega) (by omega)).2
  rw [h, List.length_append] at h1
  omega

set_option maxHeartbeats 2000000 in
set_option maxRecDepth 100000 in
theorem digits_any (n : Nat) (hn : n < 4294967296) (w : World) : Calls Tryz.prog 16 #[.int .u32 (n : Int)] w (Same (.string ⟨(numF 10 n).toArray⟩) w) := by
  have HN0 := Lib.hid hn
  go_enter Tryz.func16, Tryz.ntmps16
  go_wp2_with fail
  go_loop [0, 3] (fun u t => ∃ (v : Nat) (tail : List UInt8), u = .int .u32 (v : Int) ∧ t = .string ⟨tail.toArray⟩ ∧ v < 4294967296 ∧ Hid (numF 10 n = numF 10 v ++ tail)) (fun u _ => (intOf u).toNat)
  case atStart => exact ⟨n, [], rfl, rfl, hn, Lib.hid (by simp)⟩
  case round =>
    obtain ⟨v, tail, rfl, rfl, hv, hnum⟩ := hrel
    have hz := tail_short n v tail HN0.out hnum.out
    have hd : v % 10 < 10 := Nat.mod_lt _ (by omega)
    have hen : Utf8.encode (48 + (v : Int) % 10) = ⟨#[dg (v % 10)]⟩ := by
      rw [← encode_one (dg (v % 10)) (by rw [dg_low _ hd]; omega), dg_low _ hd]
      congr 1
    have hsz : ¬ 9223372036854775807 < (Utf8.encode (48 + (v : Int) % 10)).size + tail.length := by
      rw [hen]
      have : (⟨#[dg (v % 10)]⟩ : ByteArray).size = 1 := rfl
      omega
    have HE := Lib.hid (show Utf8.encode (48 + (v : Int) % 10) ++ ⟨tail.toArray⟩ = ⟨(dg (v % 10) :: tail).toArray⟩ by rw [hen, one_append])
    have c1 : IntKind.u32.wrap (48 + (v : Int) % 10) = 48 + (v : Int) % 10 := IntWalk.u32_in _ (by omega)
    have c2 : IntKind.i32.wrap (48 + (v : Int) % 10) = 48 + (v : Int) % 10 := IntWalk.i32_in _ (by omega)
    clear hen
    by_cases hge : 10 ≤ v
    · have e3 : (((v : Int) / 10) == 0) = false := beq_false_of_ne (by omega)
      have HN := Lib.hid (show numF 10 n = numF 10 (v / 10) ++ dg (v % 10) :: tail by rw [hnum.out, numF_great 10 v (by omega) (by omega)]; simp)
      clear hnum
      go_wp2_with fail
      go_round
      case rel => exact ⟨v / 10, dg (v % 10) :: tail, rfl, by rw [HE.out], by omega, HN⟩
      case measure => simp only [intOf]; omega
    · have e3 : (((v : Int) / 10) == 0) = true := beq_iff_eq.2 (by omega)
      have hvm : v % 10 = v := Nat.mod_eq_of_lt (by omega)
      have HN := Lib.hid (show numF 10 n = dg (v % 10) :: tail by rw [hnum.out, hvm, numF_small 10 v (by omega)]; rfl)
      clear hnum hvm
      go_wp2_with fail
      go_ret
      exact ⟨by rw [HN.out, ← HE.out]; rfl, rfl⟩
end Go.Proofs.YtdcbcjljmjnopaaGreatDoor.Fre
