/-
  slices.IndexFunc, ContainsFunc, DeleteFunc over lists of texts, at whatever function value that lays blocks of its own alone.
  Conditions: those that each theorem names.
-/
import Derived.Test.YtinibacmhmmcdaaDoorVB
import Derived.Shelf.Abstract
import Derived.Deep.DeepMust
namespace Go.Proofs.YtinibacmhmmcdaaDoor.Hop
open Go.RowKit

/-- Where the first one of which p holds stands; -1: none. -/
def Hit {α : Type} (p : α → Bool) (l : List α) (i : Int) : Prop := (i = -1 ∧ l.any p = false) ∨ ∃ (k : Nat) (x : α), i = (k : Int) ∧ l[k]? = some x ∧ p x = true ∧ (l.take k).any p = false
theorem Hit.any {α : Type} {p : α → Bool} {l : List α} {i : Int} (h : Hit p l i) : decide (0 ≤ i) = l.any p := by
  rcases h with ⟨rfl, h⟩ | ⟨k, x, rfl, hx, hp, _⟩
  · rw [h]; rfl
  · have h1 : l.any p = true := List.any_eq_true.2 ⟨x, List.mem_of_getElem? hx, hp⟩
    rw [h1]
    simp
/-- What is asked of a function value: an answer, and blocks of its own alone. -/
def Asks {α : Type} (g : Nat) (lb : Array Value) (enc : α → Value) (p : α → Bool) (ls : List α) (S : Nat → Prop) (w : World) : Prop :=
  ∀ x ∈ ls, ∀ X : World, Turn S w X → Calls Tryd.prog g (#[enc x] ++ lb) X fun e w' => e = .returned (.bool (p x)) ∧ Below X.heap.size X w'
theorem Asks.mono {α : Type} {g : Nat} {lb : Array Value} {enc : α → Value} {p : α → Bool} {ls : List α} {S S' : Nat → Prop} {w w' : World} (h : Asks g lb enc p ls S w) (ht : Turn S w w') (hs : ∀ b, b < w.heap.size → S' b → S b) : Asks g lb enc p ls S' w' :=
  fun x hx X hX => h x hx X (ht.trans hX (fun b hb hS => hs b hb hS))

set_option maxHeartbeats 4000000 in
set_option maxRecDepth 100000 in
theorem idxS_any {P : Nat → Prop} {S : Nat → Prop} (g : Nat) (lb : Array Value) (eg : ∀ args w, (callFunc g args).run Tryd.prog w = .ok (.enter g args) w) (p : List UInt8 → Bool) (w : World) (A : Option Addr) (ls : List (List UInt8)) (n c : Nat) (hn : ls.length = n) (hmax : n ≤ 140737488351232) (h : SrcS w P A ls) (ha : Asks g lb strV p ls S w) :
    Calls Tryd.prog 54 #[.slice A n c, .func (.func g) #[] lb] w fun e w' => ∃ i : Int, e = .returned (.int .i64 i) ∧ Hit p ls i ∧ Below w.heap.size w w' := by
  have HN := Lib.hid hn
  have H := Lib.hid h
  have HA := Lib.hid ha
  clear hn h ha
  go_enter Tryd.func54, Tryd.ntmps54
  go_wp2_with fail
  go_loopw [8] (fun vi wr => ∃ k : Nat, vi = .int .i64 (k : Int) ∧ k ≤ n ∧ Hid ((ls.take k).any p = false) ∧ Hid (Below w.heap.size w wr)) (fun vi _ => n - (intOf vi).toNat)
  case atStart => exact ⟨0, rfl, Nat.zero_le _, Lib.hid rfl, Lib.hid (Below.refl _ _)⟩
  case round =>
    obtain ⟨k, rfl, hk, HE, HB⟩ := hrel
    by_cases hlt : k < n
    · obtain ⟨pa, x, hx, hat, y2, _, _⟩ := H.out.at (c := c) HN.out hlt HB.out
      have HTK := Lib.hid (show (ls.take (k + 1)).any p = p x by rw [take_snoc ls k x hx, List.any_append, HE.out]; simp)
      have HX := Lib.hid hx
      have CD := HA.out x (List.mem_of_getElem? hx) wr (Turn.of_below HB.out)
      unfold strV at CD
      clear hx
      cases hb : p x with
      | false =>
        rw [hb] at CD HTK
        clear hb
        go_wp2_with (go_at_fn g; go_must (refine CD.mono ?_; rintro e w5 ⟨rfl, b5⟩))
        have B5 := Lib.hid (HB.out.trans (b5.mono HB.out.size))
        clear b5
        go_roundw
        case rel => exact ⟨k + 1, by go_num, hlt, HTK, B5⟩
        case measure => simp [intOf]; omega
      | true =>
        rw [hb] at CD
        have HP := Lib.hid hb
        clear hb
        go_wp2_with (go_at_fn g; go_must (refine CD.mono ?_; rintro e w5 ⟨rfl, b5⟩))
        go_ret
        exact ⟨(k : Int), rfl, .inr ⟨k, x, rfl, HX.out, HP.out, HE.out⟩, HB.out.trans (b5.mono HB.out.size)⟩
    · have HN := Lib.hid (show ls.any p = false by rw [← HE.out, List.take_of_length_le (by rw [HN.out]; omega)])
      go_wp2_with fail
      go_ret
      exact ⟨-1, rfl, .inl ⟨rfl, HN.out⟩, HB.out⟩
theorem enters_idxS : ∀ args w, (callFunc 54 args).run Tryd.prog w = .ok (.enter 54 args) w := enters_of Tryd.func54 (by kernel_rfl) rfl
theorem hasS_any {P : Nat → Prop} {S : Nat → Prop} (g : Nat) (lb : Array Value) (eg : ∀ args w, (callFunc g args).run Tryd.prog w = .ok (.enter g args) w) (p : List UInt8 → Bool) (w : World) (A : Option Addr) (ls : List (List UInt8)) (n c : Nat) (hn : ls.length = n) (hmax : n ≤ 140737488351232) (h : SrcS w P A ls) (ha : Asks g lb strV p ls S w) :
    Calls Tryd.prog 52 #[.slice A n c, .func (.func g) #[] lb] w fun e w' => e = .returned (.bool (ls.any p)) ∧ Below w.heap.size w w' := by
  have CI := Lib.hid (idxS_any g lb eg p w A ls n c hn hmax h ha)
  clear hn hmax h ha
  go_enter Tryd.func52, Tryd.ntmps52
  go_wp2_with fail
  refine CI.out.mono ?_
  rintro e w' ⟨i, rfl, hi, b'⟩
  have hh := hi.any
  clear hi
  go_wp2_with fail
  go_ret
  exact ⟨by rw [← hh]; rfl, b'⟩

def keepB {α : Type} (p : α → Bool) (x : α) : Bool := !p x
theorem keep_all {α : Type} {p : α → Bool} {l : List α} (h : l.any p = false) : l.filter (keepB p) = l := by
  apply List.filter_eq_self.2
  intro x hx
  have := List.any_eq_false.1 h x hx
  simpa [keepB] using this
theorem keep_snoc {α : Type} (p : α → Bool) (l : List α) (k : Nat) (x : α) (h : l[k]? = some x) : (l.take (k + 1)).filter (keepB p) = (l.take k).filter (keepB p) ++ (if p x = true then [] else [x]) := by
  rw [take_snoc l k x h, List.filter_append]
  congr 1
  cases hp : p x <;> simp [keepB, hp]
theorem at_row (t e : TypeId) (sz : Nat) (ht : Tryd.prog.underlying t = some (.slice e)) (hsz : (Tryd.prog.info? e).map (·.size) = some sz) (g n c k : Nat) (hk : k < n) (W : World) :
    (Instr.indexAt t (.slice (some ⟨g, 0, none⟩) n c) (.int .i64 (k : Int))).run Tryd.prog W = .ok (.pointer (some ⟨g, k * sz, none⟩)) W := by
  have := run_at_size t e sz ht hsz ⟨g, 0, none⟩ n c k hk W
  rwa [add_at, Nat.zero_add] at this
theorem strs_app (a b : List (List UInt8)) : strs (a ++ b) = strs a ++ strs b := by simp [strs]
theorem zero_str (w : World) : (zeroValue 9).run Tryd.prog w = .ok (.string ⟨#[]⟩) w := by kernel_rfl

set_option maxHeartbeats 8000000 in
set_option maxRecDepth 100000 in
/-- slices.DeleteFunc over a list of the call's own. -/
theorem delS_any (g : Nat) (lb : Array Value) (eg : ∀ args w, (callFunc g args).run Tryd.prog w = .ok (.enter g args) w) (p : List UInt8 → Bool) (w : World) (v : Value) (o : Option Nat) (ls : List (List UInt8)) (hown : OwnS w v o ls) (hmax : ls.length ≤ 140737488351232) (ha : Asks g lb strV p ls (fun b => o = some b) w) :
    Calls Tryd.prog 27 #[v, .func (.func g) #[] lb] w fun e w' => ∃ v', e = .returned v' ∧ OwnS w' v' o (ls.filter (keepB p)) ∧ Turn (fun b => o = some b) w w' := by
  obtain ⟨A0, c0, hv0, src0⟩ := hown.src (fun _ => True) (fun _ _ => trivial)
  have CI := idxS_any g lb eg p w A0 ls ls.length c0 rfl hmax src0 ha
  rw [← hv0] at CI
  clear src0 hv0
  rcases ownS_row hown with ⟨rfl, rfl, rfl⟩ | ⟨g0, c, cur, rfl, rfl, hi0, hnc, hcm, hcl, htk⟩
  · have HO := Lib.hid hown
    clear hown ha
    go_enter Tryd.func27, Tryd.ntmps27
    go_wp2_with fail
    refine CI.mono ?_
    rintro e w1 ⟨i, rfl, hi, b1⟩
    obtain rfl : i = -1 := by
      rcases hi with ⟨h, _⟩ | ⟨k, x, _, hx, _⟩
      · exact h
      · simp at hx
    go_wp2_with fail
    go_ret
    exact ⟨_, rfl, HO.out.kept (Turn.of_below (S := fun _ => False) b1) (fun _ _ h => h), Turn.of_below b1⟩
  · obtain ⟨n, hn⟩ : ∃ n, ls.length = n := ⟨_, rfl⟩
    rw [hn] at CI hmax hnc htk ⊢
    have HN := Lib.hid hn
    have HO := Lib.hid hown
    have HA := Lib.hid ha
    have I0 := Lib.hid hi0
    have HCL := Lib.hid hcl
    have HTK := Lib.hid htk
    have HCM := Lib.hid hcm
    clear hn hown ha hi0 hcl htk hcm
    go_enter Tryd.func27, Tryd.ntmps27
    go_wp2_with fail
    refine CI.mono ?_
    rintro e w1 ⟨i, rfl, hi, b1⟩
    have T1 := Lib.hid (Turn.of_below (S := fun b => g0 = b) b1)
    have I1 := Lib.hid (I0.out.kept (Turn.of_below (S := fun _ => False) b1) (fun h => h))
    have O1 := Lib.hid (HO.out.kept (Turn.of_below (S := fun _ => False) b1) (fun _ _ h => h))
    clear b1 I0 HO
    rcases hi with ⟨rfl, hno⟩ | ⟨k0, x0, rfl, hx0, hp0, hno⟩
    · have HF := Lib.hid (keep_all hno)
      clear hno
      go_wp2_with fail
      go_ret
      rw [HF.out]
      have O2 := O1.out
      rw [HN.out] at O2
      exact ⟨_, rfl, O2, T1.out.mono (fun _ _ h => by rw [h])⟩
    · have hk0 : k0 < n := by
        have := (List.getElem?_eq_some_iff.1 hx0).1
        rw [HN.out] at this
        exact this
      have hne1 : ((k0 : Int) == -1) = false := beq_eq_false_iff_ne.2 (by omega)
      have S0 := Lib.hid (show (ls.take (k0 + 1)).filter (keepB p) = ls.take k0 by rw [keep_snoc p ls k0 x0 hx0, keep_all hno, if_pos hp0, List.append_nil])
      have HT0 := Lib.hid (show cur.take k0 = strs (ls.take k0) by
        have h1 := congrArg (List.take k0) HTK.out
        rw [List.take_take, Nat.min_eq_left (by omega)] at h1
        rw [h1, strs, strs, List.map_take])
      have HL0 := Lib.hid (show k0 = (ls.take k0).length by rw [List.length_take, HN.out]; omega)
      have HR0 := Lib.hid (show ∀ (k : Nat) (x : List UInt8), ls[k]? = some x → cur[k]? = some (strV x) by
        intro k x hx
        have hk : k < n := by
          have := (List.getElem?_eq_some_iff.1 hx).1
          rw [HN.out] at this
          exact this
        have h1 : (cur.take n)[k]? = some (strV x) := by rw [HTK.out]; simp [strs, hx]
        rw [List.getElem?_take, if_pos hk] at h1
        exact h1)
      clear hx0 hp0 hno HTK O1
      go_wp2_with fail
      go_loopw [5, 6, 7] (fun s5 s6 _ wr => ∃ (i j : Nat) (cu : List Value), s5 = .int .i64 (i : Int) ∧ s6 = .int .i64 (j : Int) ∧ i < j ∧ j ≤ n ∧ Hid (Is wr g0 9 cu) ∧ Hid (cu.length = c) ∧ Hid (i = ((ls.take j).filter (keepB p)).length) ∧ Hid (cu.take i = strs ((ls.take j).filter (keepB p))) ∧
        Hid (∀ (k : Nat) (x : List UInt8), j ≤ k → ls[k]? = some x → cu[k]? = some (strV x)) ∧ Hid (Turn (fun b => g0 = b) w wr)) (fun _ s6 _ _ => n - (intOf s6).toNat)
      case atStart => exact ⟨k0, k0 + 1, cur, rfl, by go_num, by omega, hk0, I1, HCL, Lib.hid (by rw [S0.out]; exact HL0.out), Lib.hid (by rw [S0.out]; exact HT0.out), Lib.hid (fun k x _ h => HR0.out k x h), T1⟩
      case round =>
        obtain ⟨i, j, cu, rfl, rfl, hij, hj, HI, HC, HLI, HTI, HRI, HT⟩ := hrel
        by_cases hlt : j < n
        · obtain ⟨x, hx⟩ : ∃ x, ls[j]? = some x := ⟨ls[j]'(by rw [HN.out]; exact hlt), List.getElem?_eq_getElem _⟩
          have cj : wr.cell? ⟨g0, j, none⟩ = some (.string ⟨x.toArray⟩) := by rw [HI.out.cell]; exact HRI.out j x (Nat.le_refl _) hx
          have hat : ∀ Wx, (Instr.indexAt 25 (.slice (some ⟨g0, 0, none⟩) n c) (.int .i64 (j : Int))).run Tryd.prog Wx = .ok (.pointer (some ⟨g0, j, none⟩)) Wx := fun Wx => by
            have := at_row 25 9 1 Tryd.underlying25 strSize g0 n c j hlt Wx
            rwa [Nat.mul_one] at this
          have hai : ∀ Wx, (Instr.indexAt 25 (.slice (some ⟨g0, 0, none⟩) n c) (.int .i64 (i : Int))).run Tryd.prog Wx = .ok (.pointer (some ⟨g0, i, none⟩)) Wx := fun Wx => by
            have := at_row 25 9 1 Tryd.underlying25 strSize g0 n c i (by omega) Wx
            rwa [Nat.mul_one] at this
          obtain ⟨u, hu⟩ : ∃ u, cu[i]? = some u := ⟨cu[i]'(by rw [HC.out]; omega), List.getElem?_eq_getElem _⟩
          have HU := Lib.hid hu
          have CD := HA.out x (List.mem_of_getElem? hx) wr (HT.out.mono (fun _ _ h => by rw [h]))
          unfold strV at CD
          have HS := Lib.hid (keep_snoc p ls j x hx)
          have HX := Lib.hid hx
          clear hx hu
          cases hb : p x with
          | true =>
            rw [hb] at CD HS
            clear hb
            go_wp2_with (go_at_fn g; go_must (refine CD.mono ?_; rintro e w5 ⟨rfl, b5⟩))
            go_roundw
            case rel =>
              have S1 : (ls.take (j + 1)).filter (keepB p) = (ls.take j).filter (keepB p) := by rw [HS.out]; simp
              exact ⟨i, j + 1, cu, rfl, by go_num, by omega, hlt, Lib.hid (HI.out.kept (Turn.of_below (S := fun _ => False) b5) (fun h => h)), HC, Lib.hid (by rw [S1]; exact HLI.out), Lib.hid (by rw [S1]; exact HTI.out), Lib.hid (fun k x h hx => HRI.out k x (by omega) hx), Lib.hid (HT.out.trans (Turn.of_below (S := fun _ => False) b5) (fun _ _ h => h.elim))⟩
            case measure => simp [intOf]; omega
          | false =>
            rw [hb] at CD HS
            clear hb
            obtain ⟨Xs, hXs⟩ : ∃ Xs : ByteArray, Xs = ⟨x.toArray⟩ := ⟨_, rfl⟩
            have HXs := Lib.hid hXs
            rw [← hXs] at cj CD
            clear hXs
            go_wp2_with (go_at_fn g; go_must (refine CD.mono ?_; rintro e w5 ⟨rfl, b5⟩; have I5 := Lib.hid (HI.out.kept (Turn.of_below (S := fun _ => False) b5) (fun h => h)); have yc : w5.cell? ⟨g0, i, none⟩ = some u := (by rw [I5.out.cell]; exact HU.out); have yf : w5.frozen? ⟨g0, i, none⟩ = false := I5.out.free i))
            go_roundw
            case rel =>
              have S1 : (ls.take (j + 1)).filter (keepB p) = (ls.take j).filter (keepB p) ++ [x] := by rw [HS.out]; simp
              refine ⟨i + 1, j + 1, cu.set i (.string Xs), by go_num, by go_num, by omega, hlt, Lib.hid (I5.out.set i _), Lib.hid (by rw [List.length_set]; exact HC.out), Lib.hid (by rw [S1, List.length_append, ← HLI.out]; rfl), Lib.hid ?_, Lib.hid ?_, Lib.hid ?_⟩
              · rw [S1, strs_app, ← HTI.out, List.take_add_one, List.take_set_of_le (Nat.le_refl _), List.getElem?_set_self (by rw [HC.out]; omega), HXs.out]
                rfl
              · intro k y hk hy
                rw [List.getElem?_set_ne (by omega)]
                exact HRI.out k y (by omega) hy
              · exact (HT.out.trans (Turn.of_below (S := fun _ => False) b5) (fun _ _ h => h.elim)).setCell (fun _ => rfl) _
            case measure => simp [intOf]; omega
        · obtain rfl : j = n := by omega
          obtain ⟨w6, cu6, hcl, i6, l6, t6, tn6, z6⟩ := run_clear wr 25 9 0 (.string ⟨#[]⟩) [.string ⟨#[]⟩] Tryd.underlying25 zero_str rfl (fun v hv => by simp at hv; rw [hv]; rfl) g0 9 i (j - i) (c - i) cu HI.out (by rw [HC.out]; simp; omega)
          have HCLR := hcl
          have HI6 := Lib.hid i6
          have HL6 := Lib.hid l6
          have HT6 := Lib.hid t6
          have HTN6 := Lib.hid tn6
          clear i6 l6 t6 tn6 z6 hcl
          go_wp2_with fail
          go_ret
          have S1 : ls.filter (keepB p) = (ls.take j).filter (keepB p) := by rw [List.take_of_length_le (by rw [HN.out]; exact Nat.le_refl _)]
          rw [S1]
          refine ⟨_, rfl, ?_, ?_⟩
          · have h1 := row_ownS (ls := (ls.take j).filter (keepB p)) HI6.out (by rw [← HLI.out]; omega) HCM.out (by rw [HL6.out]; exact HC.out) (by rw [← HLI.out, HT6.out]; exact HTI.out)
            rw [← HLI.out] at h1
            exact h1
          · exact (HT.out.trans (HTN6.out.mono (S' := fun b => g0 = b) (fun _ _ h => h.symm)) (fun _ _ h => h)).mono (fun _ _ h => by rw [h])
end Go.Proofs.YtinibacmhmmcdaaDoor.Hop
