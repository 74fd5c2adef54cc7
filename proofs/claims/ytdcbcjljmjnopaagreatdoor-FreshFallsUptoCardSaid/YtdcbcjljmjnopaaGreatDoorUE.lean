/-
  What package text's List does, call by call.
  Conditions: those that each theorem names.
-/
import Derived.Test.YtdcbcjljmjnopaaGreatDoorUD
import Derived.Test.YtdcbcjljmjnopaaGreatDoorPB
namespace Go.Proofs.YtdcbcjljmjnopaaGreatDoor
open Go.RowKit

/-- The parts of a text, sign by sign: within a quoted part, and behind a sign that takes the next one along. -/
def mach (cur : List UInt8) (q t : Bool) : List UInt8 → List (List UInt8)
  | [] => [cur]
  | c :: l =>
    if t then mach (cur ++ [c]) q false l
    else if c = 92 then mach (cur ++ [c]) q q l
    else if c = 34 then mach (cur ++ [c]) (!q) false l
    else if c = 44 ∧ q = false then cur :: mach [] q false l
    else mach (cur ++ [c]) q false l

theorem mach_parts : ∀ (n : Nat) (l cur : List UInt8), l.length ≤ n → mach cur false false l = partsF cur l ∧ mach cur true false l = partsF (cur ++ l.take (qskip l)) (l.drop (qskip l))
  | _, [], cur, _ => ⟨by simp [mach, partsF_nil], by simp [mach, qskip, partsF_nil]⟩
  | 0, _ :: _, _, h => absurd h (by simp)
  | n + 1, c :: l, cur, h => by
    have hl : l.length ≤ n := by simpa using h
    constructor
    · by_cases h92 : c = 92
      · subst h92
        rw [partsF_other cur l 92 (by decide) (by decide), ← (mach_parts n l _ hl).1]
        simp [mach]
      · by_cases h34 : c = 34
        · subst h34
          rw [partsF_quote, show cur ++ 34 :: l.take (qskip l) = (cur ++ [34]) ++ l.take (qskip l) by simp, ← (mach_parts n l _ hl).2]
          simp [mach]
        · by_cases h44 : c = 44
          · subst h44
            rw [partsF_comma, ← (mach_parts n l _ hl).1]
            simp [mach]
          · rw [partsF_other cur l c h34 h44, ← (mach_parts n l _ hl).1]
            simp [mach, h92, h34, h44]
    · by_cases h92 : c = 92
      · subst h92
        rw [qskip_back 92 l rfl]
        cases l with
        | nil => simp [mach, qskip, partsF_nil]
        | cons d l =>
          have hl2 : l.length ≤ n := by simp at hl; omega
          have := (mach_parts n l (cur ++ [92] ++ [d]) hl2).2
          rw [if_neg (by simp)]
          simp only [mach]
          simp only [List.drop_succ_cons, List.drop_zero]
          rw [show 1 + 1 + qskip l = qskip l + 1 + 1 by omega, List.take_succ_cons, List.take_succ_cons, List.drop_succ_cons, List.drop_succ_cons]
          simpa using this
      · by_cases h34 : c = 34
        · subst h34
          rw [qskip_end 34 l rfl]
          have := (mach_parts n l (cur ++ [34]) hl).1
          simpa [mach] using this
        · have := (mach_parts n l (cur ++ [c]) hl).2
          rw [qskip_other c l h34 h92, show 1 + qskip l = qskip l + 1 by omega, List.take_succ_cons, List.drop_succ_cons]
          simp only [mach, h92, h34]
          simpa using this
theorem mach_list (l : List UInt8) : elemsOf (mach [] false false l) = listF l := by rw [(mach_parts l.length l [] (Nat.le_refl _)).1, listF_eq]

theorem mach_high : ∀ (x : List UInt8) (cur l : List UInt8) (q : Bool), (∀ c ∈ x, 128 ≤ c.toNat) → mach cur q false (x ++ l) = mach (cur ++ x) q false l
  | [], cur, l, q, _ => by simp
  | c :: x, cur, l, q, h => by
    have hc := h c (by simp)
    have h92 : c ≠ 92 := by rintro rfl; revert hc; decide
    have h34 : c ≠ 34 := by rintro rfl; revert hc; decide
    have h44 : c ≠ 44 := by rintro rfl; revert hc; decide
    have := mach_high x (cur ++ [c]) l q (fun d hd => h d (by simp [hd]))
    rw [List.cons_append]
    simp only [mach, h92, h34, h44]
    simpa using this
theorem mach_wide (x : List UInt8) (cur l : List UInt8) (q t : Bool) (hne : x ≠ []) (h : ∀ c ∈ x, 128 ≤ c.toNat) : mach cur q t (x ++ l) = mach (cur ++ x) q false l := by
  cases t with
  | false => exact mach_high x cur l q h
  | true =>
    cases x with
    | nil => exact absurd rfl hne
    | cons c x =>
      have := mach_high x (cur ++ [c]) l q (fun d hd => h d (by simp [hd]))
      rw [List.cons_append]
      simp only [mach]
      simpa using this
theorem mach_taken (c : UInt8) (cur l : List UInt8) (q : Bool) : mach cur q true (c :: l) = mach (cur ++ [c]) q false l := by simp [mach]
theorem mach_back (c : UInt8) (cur l : List UInt8) (q : Bool) (h : c = 92) : mach cur q false (c :: l) = mach (cur ++ [c]) q q l := by simp [mach, h]
theorem mach_quote (c : UInt8) (cur l : List UInt8) (q : Bool) (h : c = 34) : mach cur q false (c :: l) = mach (cur ++ [c]) (!q) false l := by simp [mach, h]
theorem mach_comma (c : UInt8) (cur l : List UInt8) (h : c = 44) : mach cur false false (c :: l) = cur :: mach [] false false l := by simp [mach, h]
theorem mach_other (c : UInt8) (cur l : List UInt8) (q : Bool) (h : c ≠ 92) (h' : c ≠ 34) (h'' : c ≠ 44 ∨ q = true) : mach cur q false (c :: l) = mach (cur ++ [c]) q false l := by
  rcases h'' with h'' | h'' <;> simp [mach, h, h', h'']

def elOf (x : List UInt8) : List (List UInt8) := if trimF x = [] then [] else [trimF x]
def Adds (b : Nat) (o : Option Nat) (ls : List (List UInt8)) (w : World) (e : Ending) (w' : World) : Prop :=
  e = .returned (.tuple #[]) ∧ ∃ v' o', Is w' b 48 [v'] ∧ OwnS w' v' o' ls ∧ Turn (fun k => k = b ∨ o = some k) w w' ∧ ∀ k, o' = some k → o = some k ∨ w.heap.size ≤ k

set_option maxHeartbeats 1000000 in
set_option maxRecDepth 100000 in
theorem add_any (s : ByteArray) (b : Nat) (v : Value) (o : Option Nat) (ls : List (List UInt8)) (w : World) (hs : s.size ≤ 140737488351232) (hb : Is w b 48 [v]) (hown : OwnS w v o ls) (hob : ∀ k, o = some k → k ≠ b) (hlen : ls.length ≤ 1000000000000) :
    Calls Tryz.prog 96 #[.string s, .pointer (some ⟨b, 0, none⟩)] w (Adds b o (ls ++ elOf (bl s)) w) := by
  have C := Lib.hid (ty_trim s w hs)
  have HE := Lib.hid (show elOf (bl s) = if trimF (bl s) = [] then [] else [trimF (bl s)] from rfl)
  generalize trimF (bl s) = x at *
  cases x with
  | nil =>
    go_enter Tryz.func96, Tryz.ntmps96
    go_wp2_with fail
    refine C.out.mono ?_
    rintro e w1 ⟨rfl, b1⟩
    go_wp2_with fail
    go_end0
    refine ⟨rfl, v, o, ?_⟩
    rw [show elOf (bl s) = [] from HE.out.trans (if_pos (by simp)), List.append_nil]
    exact ⟨hb.kept (Turn.of_below (S := fun _ => False) b1) (fun h => h), hown.kept (Turn.of_below (S := fun _ => False) b1) (fun _ _ h => h), Turn.of_below b1, fun k hk => .inl hk⟩
  | cons c x =>
    go_enter Tryz.func96, Tryz.ntmps96
    go_wp2_with fail
    refine C.out.mono ?_
    rintro e w1 ⟨rfl, b1⟩
    have hb1 : Is w1 b 48 [v] := hb.kept (Turn.of_below (S := fun _ => False) b1) (fun h => h)
    have hown1 : OwnS w1 v o ls := hown.kept (Turn.of_below (S := fun _ => False) b1) (fun _ _ h => h)
    obtain ⟨v', w', o', hrun, own', t', ho'⟩ := run_push_str w1 v o ls (c :: x) hown1 (by omega)
    have hz := b1.size
    have hb2 : Is w' b 48 [v] := hb1.kept t' (fun h => hob b h rfl)
    have z : w1.cell? ⟨b, 0, none⟩ = some v := hb1.cell 0
    have z2 : w'.cell? ⟨b, 0, none⟩ = some v := hb2.cell 0
    have zf := hb2.free 0
    obtain ⟨A, cp, rfl, _⟩ := own'.src (fun _ => True) (fun _ _ => trivial)
    generalize hn : (ls ++ [c :: x]).length = n at *
    have HN := Lib.hid hn
    clear hn
    have HRU := Lib.hid hrun
    have HO' := Lib.hid ho'
    have HOB := Lib.hid hob
    clear hrun ho' hob
    go_wp2_with (at_builtin; refine append_by rfl (.tmp 8) (.tmp 10) 48 rfl _ _ (.slice A n cp) w' rfl rfl HRU.out ?_)
    go_end0
    have HE2 : elOf (bl s) = [c :: x] := HE.out.trans (if_neg (by simp))
    rw [HE2]
    refine ⟨rfl, .slice A n cp, o', hb2.set 0 _, own'.kept ((Turn.refl (· = b) _).setCell (fun _ => rfl) _) (fun k hk e => ?_), ?_, fun k hk => ?_⟩
    · rcases HO'.out k hk with h | h
      · exact HOB.out k h e
      · have := hb.lt
        omega
    · refine ((Turn.of_below b1).trans (t'.mono (S' := fun k => k = b ∨ o = some k) (fun k _ h => .inr h)) (fun k _ h => h)).setCell (fun _ => .inl rfl) _
    · rcases HO'.out k hk with h | h
      · exact .inl h
      · exact .inr (by omega)

theorem piece_more (s : ByteArray) (f k n : Nat) (h : f ≤ k) : piece s f (k + n) = piece s f k ++ ((bl s).drop k).take n := by
  unfold piece
  rw [show k + n - f = (k - f) + n by omega, List.take_add, List.drop_drop, show f + (k - f) = k by omega]
theorem drop_more (s : ByteArray) (k n : Nat) : (bl s).drop k = ((bl s).drop k).take n ++ (bl s).drop (k + n) := by
  rw [← List.drop_drop, List.take_append_drop]
theorem take_one (s : ByteArray) (k : Nat) (h : k < s.size) : ((bl s).drop k).take 1 = [s[k]] := by
  rw [bl_drop s k h]
  rfl

def LRel (W : World) (s : ByteArray) (r : List (List UInt8)) (vf vq vt : Value) (wx : World) : Prop :=
  ∃ (k f : Nat) (q t : Bool) (v : Value) (o : Option Nat) (ls : List (List UInt8)), f ≤ k ∧ k ≤ s.size ∧ vf = .int .i64 (f : Int) ∧ vq = .bool q ∧ vt = .bool t ∧ AtIter wx (W.heap.size + 1) s k ∧ Is wx W.heap.size 48 [v] ∧ OwnS wx v o ls ∧
    (∀ b, o = some b → W.heap.size + 2 ≤ b) ∧ Below W.heap.size W wx ∧ ls ++ elemsOf (mach (piece s f k) q t ((bl s).drop k)) = r

/-- What a step of the range leaves. -/
theorem LRel.next {W wr w1 : World} {s : ByteArray} {k n : Nat} {v : Value} {o : Option Nat} {ls : List (List UInt8)} (hit1 : AtIter w1 (W.heap.size + 1) s (k + n)) (t1 : Turn (· = W.heap.size + 1) wr w1) (hb : Is wr W.heap.size 48 [v]) (hown : OwnS wr v o ls)
    (ho : ∀ b, o = some b → W.heap.size + 2 ≤ b) (hB : Below W.heap.size W wr) : AtIter w1 (W.heap.size + 1) s (k + n) ∧ Is w1 W.heap.size 48 [v] ∧ OwnS w1 v o ls ∧ Below W.heap.size W w1 :=
  ⟨hit1, hb.kept t1 (by omega), hown.kept t1 (fun b hb e => by have := ho b hb; omega), hB.trans ⟨t1.os, t1.tape, t1.output, t1.size, fun b hb => t1.block b (by have := hB.size; omega) (by omega)⟩⟩

/-- What an element that was added leaves. -/
theorem LRel.added {W w1 w2 : World} {s : ByteArray} {k : Nat} {o o2 : Option Nat} (hit1 : AtIter w1 (W.heap.size + 1) s (k + 1)) (ho : ∀ b, o = some b → W.heap.size + 2 ≤ b) (hB : Below W.heap.size W w1)
    (t2 : Turn (fun b => b = W.heap.size ∨ o = some b) w1 w2) (ho2 : ∀ b, o2 = some b → o = some b ∨ w1.heap.size ≤ b) :
    AtIter w2 (W.heap.size + 1) s (k + 1) ∧ (∀ b, o2 = some b → W.heap.size + 2 ≤ b) ∧ Below W.heap.size W w2 := by
  have hz := hit1.lt
  refine ⟨hit1.kept t2 ?_, fun b hb => ?_, hB.trans ⟨t2.os, t2.tape, t2.output, t2.size, fun b hb => t2.block b (by omega) ?_⟩⟩
  · rintro (h | h)
    · omega
    · have := ho _ h
      omega
  · rcases ho2 b hb with h | h
    · exact ho b h
    · omega
  · rintro (h | h)
    · omega
    · have := ho _ h
      omega

set_option maxHeartbeats 4000000 in
set_option maxRecDepth 100000 in
theorem ty_list (s : ByteArray) (W : World) (hs : s.size ≤ 140737488351232) (hl : (listF (bl s)).length ≤ 1000000000000) : Calls Tryz.prog 80 #[.string s] W (Lists (listF (bl s)) W) := by
  obtain ⟨r, hr⟩ : ∃ r, r = listF (bl s) := ⟨_, rfl⟩
  rw [← hr]
  rw [← hr] at hl
  have HR := Lib.hid hr
  clear hr
  go_enter Tryz.func80, Tryz.ntmps80
  go_wp2_with fail
  go_loopw [5, 6, 7, 8, 9] (fun vf vq vt _ _ wx => LRel W s r vf vq vt wx) (fun _ _ _ _ _ wx => s.size - wx.iterPos (W.heap.size + 1))
  case atStart =>
    have hb0 : Is (W.alloc (.cells #[.slice none 0 0] 48)) W.heap.size 48 [.slice none 0 0] := Is.made W 48 [.slice none 0 0]
    have t0 : Turn (fun _ => False) (W.alloc (.cells #[.slice none 0 0] 48)) ((W.alloc (.cells #[.slice none 0 0] 48)).iter s 0) := (Turn.refl _ _).alloc _
    have hit0 : AtIter ((W.alloc (.cells #[.slice none 0 0] 48)).iter s 0) (W.heap.size + 1) s 0 := by
      have := AtIter.start (W.alloc (.cells #[.slice none 0 0] 48)) s
      simpa using this
    refine ⟨0, 0, false, false, .slice none 0 0, none, [], Nat.le_refl _, Nat.zero_le _, rfl, rfl, rfl, hit0, hb0.kept t0 (fun h => h), OwnS.nil _, (fun _ h => by cases h), ((Below.refl _ _).alloc (Nat.le_refl _) _).alloc (by simp) _, ?_⟩
    rw [HR.out, ← mach_list, piece_self]
    rfl
  case round =>
    obtain ⟨k, f, q, t, v, o, ls, hfk, hk, rfl, rfl, rfl, hit, hb, hown, ho, hB, hu⟩ := hrel
    have hll : ls.length ≤ 1000000000000 := by
      have := congrArg List.length hu
      rw [List.length_append] at this
      omega
    have HM := Lib.hid hit.pos
    have HU := Lib.hid hu
    clear hu
    by_cases hlt : k < s.size
    · rcases decode_step s k hlt with ⟨hc, hd⟩ | ⟨hc, x, n, hd, hx1, hx2, hn, hw⟩
      · obtain ⟨w1, hnx, hit1, t1, z1⟩ := next_some (P := Tryz.prog) hit hlt hd
        obtain ⟨hit1, hb1, hown1, hB1⟩ := LRel.next hit1 t1 hb hown ho hB
        have HO := Lib.hid ho
        have HD := Lib.hid (bl_drop s k hlt)
        have HP := Lib.hid (show piece s f (k + 1) = piece s f k ++ [s[k]] by rw [piece_more s f k 1 hfk, take_one s k hlt])
        have hz1 : W.heap.size + 1 < w1.heap.size := hit1.lt
        clear hd z1 t1 hit hb hown hB ho
        cases t with
        | true =>
          have HF := Lib.hid (show ls ++ elemsOf (mach (piece s f (k + 1)) q false ((bl s).drop (k + 1))) = r by
            have := HU.out
            rw [HD.out, mach_taken] at this
            rw [HP.out]
            exact this)
          go_wp2_with fail
          refine ⟨⟨k + 1, f, q, false, v, o, ls, by omega, hlt, rfl, rfl, rfl, hit1, hb1, hown1, HO.out, hB1, HF.out⟩, ?_⟩
          rw [hit1.pos, HM.out]
          omega
        | false =>
          by_cases h92 : (s[k].toNat : Int) = 92
          · have e1 : ((s[k].toNat : Int) == 92) = true := by simpa using h92
            have HF := Lib.hid (show ls ++ elemsOf (mach (piece s f (k + 1)) q q ((bl s).drop (k + 1))) = r by
              have := HU.out
              rw [HD.out, mach_back _ _ _ _ ((eq92 _).2 h92)] at this
              rw [HP.out]
              exact this)
            clear h92
            go_wp2_with fail
            refine ⟨⟨k + 1, f, q, q, v, o, ls, by omega, hlt, rfl, rfl, rfl, hit1, hb1, hown1, HO.out, hB1, HF.out⟩, ?_⟩
            rw [hit1.pos, HM.out]
            omega
          · have e1 : ((s[k].toNat : Int) == 92) = false := by simpa using h92
            by_cases h34 : (s[k].toNat : Int) = 34
            · have e2 : ((s[k].toNat : Int) == 34) = true := by simpa using h34
              have HF := Lib.hid (show ls ++ elemsOf (mach (piece s f (k + 1)) (!q) false ((bl s).drop (k + 1))) = r by
                have := HU.out
                rw [HD.out, mach_quote _ _ _ _ ((eq34 _).2 h34)] at this
                rw [HP.out]
                exact this)
              clear h92 h34
              go_wp2_with fail
              refine ⟨⟨k + 1, f, !q, false, v, o, ls, by omega, hlt, rfl, rfl, rfl, hit1, hb1, hown1, HO.out, hB1, HF.out⟩, ?_⟩
              rw [hit1.pos, HM.out]
              omega
            · have e2 : ((s[k].toNat : Int) == 34) = false := by simpa using h34
              by_cases h44 : (s[k].toNat : Int) = 44
              · have e3 : ((s[k].toNat : Int) == 44) = true := by simpa using h44
                cases q with
                | true =>
                  have HF := Lib.hid (show ls ++ elemsOf (mach (piece s f (k + 1)) true false ((bl s).drop (k + 1))) = r by
                    have := HU.out
                    rw [HD.out, mach_other _ _ _ _ (fun h => h92 ((eq92 _).1 h)) (fun h => h34 ((eq34 _).1 h)) (.inr rfl)] at this
                    rw [HP.out]
                    exact this)
                  clear h92 h34 h44
                  go_wp2_with fail
                  refine ⟨⟨k + 1, f, true, false, v, o, ls, by omega, hlt, rfl, rfl, rfl, hit1, hb1, hown1, HO.out, hB1, HF.out⟩, ?_⟩
                  rw [hit1.pos, HM.out]
                  omega
                | false =>
                  have HF := Lib.hid (show (ls ++ elOf (piece s f k)) ++ elemsOf (mach (piece s (k + 1) (k + 1)) false false ((bl s).drop (k + 1))) = r by
                    have := HU.out
                    rw [HD.out, mach_comma _ _ _ ((eq44 _).2 h44), elemsOf_cons] at this
                    rw [piece_self, List.append_assoc]
                    exact this)
                  have CA := Lib.hid (add_any (s.extract f k) W.heap.size v o ls w1 (by have := extract_size s f k; omega) hb1 hown1 (fun b hb e => by have := HO.out b hb; omega) (by omega))
                  rw [extract_bl] at CA
                  clear h92 h34 h44
                  go_wp2_with fail
                  refine CA.out.mono ?_
                  rintro e w2 ⟨rfl, v2, o2, hb2, hown2, t2, ho2⟩
                  obtain ⟨hit2, ho2, hB2⟩ := LRel.added hit1 HO.out hB1 t2 ho2
                  have HO2 := Lib.hid ho2
                  clear ho2 t2
                  go_wp2_with fail
                  refine ⟨⟨k + 1, k + 1, false, false, v2, o2, _, Nat.le_refl _, hlt, by simp, rfl, rfl, hit2, hb2, hown2, HO2.out, hB2, HF.out⟩, ?_⟩
                  rw [hit2.pos, HM.out]
                  omega
              · have e3 : ((s[k].toNat : Int) == 44) = false := by simpa using h44
                have HF := Lib.hid (show ls ++ elemsOf (mach (piece s f (k + 1)) q false ((bl s).drop (k + 1))) = r by
                  have := HU.out
                  rw [HD.out, mach_other _ _ _ _ (fun h => h92 ((eq92 _).1 h)) (fun h => h34 ((eq34 _).1 h)) (.inl (fun h => h44 ((eq44 _).1 h)))] at this
                  rw [HP.out]
                  exact this)
                clear h92 h34 h44
                go_wp2_with fail
                refine ⟨⟨k + 1, f, q, false, v, o, ls, by omega, hlt, rfl, rfl, rfl, hit1, hb1, hown1, HO.out, hB1, HF.out⟩, ?_⟩
                rw [hit1.pos, HM.out]
                omega
      · obtain ⟨w1, hnx, hit1, t1, z1⟩ := next_some (P := Tryz.prog) hit hlt hd
        obtain ⟨hit1, hb1, hown1, hB1⟩ := LRel.next hit1 t1 hb hown ho hB
        have HO := Lib.hid ho
        have HF := Lib.hid (show ls ++ elemsOf (mach (piece s f (k + (n + 1))) q false ((bl s).drop (k + (n + 1)))) = r by
          have := HU.out
          rw [drop_more s k (n + 1), mach_wide _ _ _ _ _ (by
            intro h
            have := congrArg List.length h
            rw [List.length_take, List.length_drop, bl_length] at this
            simp at this
            omega) hw] at this
          rw [piece_more s f k (n + 1) hfk]
          exact this)
        clear hd z1 t1 hit hb hown hB ho hw
        have e1 : ((x : Int) == 92) = false := beq_eq_false_iff_ne.2 (by omega)
        have e2 : ((x : Int) == 34) = false := beq_eq_false_iff_ne.2 (by omega)
        have e3 : ((x : Int) == 44) = false := beq_eq_false_iff_ne.2 (by omega)
        cases t with
        | true =>
          go_wp2_with fail
          refine ⟨⟨k + (n + 1), f, q, false, v, o, ls, by omega, hn, rfl, rfl, rfl, hit1, hb1, hown1, HO.out, hB1, HF.out⟩, ?_⟩
          rw [hit1.pos, HM.out]
          omega
        | false =>
          go_wp2_with fail
          refine ⟨⟨k + (n + 1), f, q, false, v, o, ls, by omega, hn, rfl, rfl, rfl, hit1, hb1, hown1, HO.out, hB1, HF.out⟩, ?_⟩
          rw [hit1.pos, HM.out]
          omega
    · have hnx := next_none (P := Tryz.prog) hit hlt
      have HO := Lib.hid ho
      have HF := Lib.hid (show ls ++ elOf (piece s f s.size) = r by
        have := HU.out
        obtain rfl : k = s.size := by omega
        rw [List.drop_of_length_le (by rw [bl_length]; exact Nat.le_refl _), mach, elemsOf_cons] at this
        rw [← this]
        simp [elOf, elemsOf])
      have hz : W.heap.size + 1 < wr.heap.size := hit.lt
      have CA := Lib.hid (add_any (s.extract f s.size) W.heap.size v o ls wr (by have := extract_size s f s.size; omega) hb hown (fun b hb e => by have := HO.out b hb; omega) (by omega))
      rw [extract_bl, HF.out] at CA
      clear ho
      go_wp2_with fail
      refine CA.out.mono ?_
      rintro e w2 ⟨rfl, v2, o2, hb2, hown2, t2, ho2⟩
      have z : w2.cell? ⟨W.heap.size, 0, none⟩ = some v2 := hb2.cell 0
      have HO2 := Lib.hid ho2
      clear ho2
      go_wp2_with fail
      go_ret
      refine ⟨v2, o2, rfl, hown2, fun b hb => ?_, hB.trans ⟨t2.os, t2.tape, t2.output, t2.size, fun b hb => t2.block b (by omega) ?_⟩⟩
      · rcases HO2.out b hb with h | h
        · have := HO.out b h
          omega
        · omega
      · rintro (h | h)
        · omega
        · have := HO.out b h
          omega

theorem mach_length : ∀ (l cur : List UInt8) (q t : Bool), (mach cur q t l).length ≤ l.length + 1
  | [], _, _, _ => by simp [mach]
  | c :: l, cur, q, t => by
    have h : ∀ cur q t, (mach cur q t l).length ≤ l.length + 1 := fun cur q t => mach_length l cur q t
    simp only [mach, List.length_cons]
    repeat' split
    all_goals first
      | exact Nat.le_succ_of_le (h _ _ _)
      | exact Nat.succ_le_succ (h _ _ _)
theorem elemsOf_length : ∀ (ps : List (List UInt8)), (elemsOf ps).length ≤ ps.length
  | [] => by simp [elemsOf]
  | x :: ps => by
    rw [elemsOf_cons, List.length_append, List.length_cons]
    have := elemsOf_length ps
    split <;> simp <;> omega
theorem tx_list (s : ByteArray) (W : World) (hs : s.size ≤ 1000000000) : Calls Tryz.prog 80 #[.string s] W (Lists (listF (bl s)) W) := by
  refine ty_list s W (by omega) ?_
  have h1 := elemsOf_length (mach [] false false (bl s))
  have h2 := mach_length (bl s) [] false false
  rw [mach_list] at h1
  rw [bl_length] at h2
  omega
end Go.Proofs.YtdcbcjljmjnopaaGreatDoor
