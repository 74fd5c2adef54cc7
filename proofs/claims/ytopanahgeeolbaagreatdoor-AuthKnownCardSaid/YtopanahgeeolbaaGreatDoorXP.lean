/-
  AuthApart: in a configuration that may be no fields hold the tokens of two tenants, and for each tenant there are fields that hold its.
  Conditions: the tenants, their Rules, and these' Methods, lie in memory; Go's table of powers of ten is as its text lays it.
-/
import Derived.Test.YtopanahgeeolbaaGreatDoorKF
import Derived.Test.YtopanahgeeolbaaGreatDoorXK
import Derived.Deep.RegionHeld3
import Derived.Deep.DeepMust
import Derived.Great.Walk
namespace Go.Proofs.YtopanahgeeolbaaGreatDoor
open Go.RowKit

/-- Drop's test of one name. -/
theorem drop11_any (x f1 : ByteArray) (g : Nat) (X : World) (hc : X.cell? ⟨g, 0, none⟩ = some (.string f1)) :
    Calls Tryz.prog 43 #[.string x, .pointer (some ⟨g, 0, none⟩)] X fun e w' => e = .returned (.bool (lowF (bl f1) == lowF (bl x))) ∧ Below X.heap.size X w' := by
  have CS := Lib.hid (fun W : World => ty_same f1 x W)
  generalize (lowF (bl f1) == lowF (bl x)) = b at *
  go_enter Tryz.func43, Tryz.ntmps43
  go_wp2_with fail
  refine (CS.out _).mono ?_
  rintro e w' ⟨rfl, b'⟩
  go_wp2_with fail
  go_ret
  exact ⟨rfl, b'⟩

set_option maxHeartbeats 4000000 in
theorem index_any {P' : Nat → Prop} (X : World) (A' : Option Addr) (names : List (List UInt8)) (q c' : Nat) (hq : names.length = q) (hqm : q ≤ 140737488351232) (h' : SrcS X P' A' names) (f1 : ByteArray) (g : Nat) (hc : X.cell? ⟨g, 0, none⟩ = some (.string f1)) :
    Calls Tryz.prog 64 #[.slice A' q c', .func (.func 43) #[] #[.pointer (some ⟨g, 0, none⟩)]] X fun e w' => ∃ i : Int, e = .returned (.int .i64 i) ∧ decide (0 ≤ i) = names.any (fun nm => lowF (bl f1) == lowF nm) ∧ Below X.heap.size X w' := by
  have HQ := Lib.hid hq
  have H' := Lib.hid h'
  have HC := Lib.hid hc
  clear hq h' hc
  go_enter Tryz.func64, Tryz.ntmps64
  go_wp2_with fail
  go_loopw [8] (fun vi wr => ∃ k : Nat, vi = .int .i64 (k : Int) ∧ k ≤ q ∧ Hid ((names.take k).any (fun nm => lowF (bl f1) == lowF nm) = false) ∧ Hid (Below X.heap.size X wr)) (fun vi _ => q - (intOf vi).toNat)
  case atStart => exact ⟨0, rfl, Nat.zero_le _, Lib.hid rfl, Lib.hid (Below.refl _ _)⟩
  case round =>
    obtain ⟨k, rfl, hk, HE, HB⟩ := hrel
    by_cases hlt : k < q
    · obtain ⟨p', x, hx, hat', y2, _, _⟩ := H'.out.at (c := c') HQ.out hlt HB.out
      have HTK := Lib.hid (show (names.take (k + 1)).any (fun nm => lowF (bl f1) == lowF nm) = (lowF (bl f1) == lowF x) by rw [take_snoc names k x hx, List.any_append, HE.out]; simp)
      have HIN := Lib.hid (List.mem_of_getElem? hx)
      obtain ⟨Xs, hXs⟩ : ∃ Xs : ByteArray, Xs = ⟨x.toArray⟩ := ⟨_, rfl⟩
      have hbx : x = bl Xs := by rw [hXs, bl_mk]
      rw [← hXs] at y2
      have CD := Lib.hid (fun W : World => drop11_any Xs f1 g W)
      have y3 : wr.cell? ⟨g, 0, none⟩ = some (.string f1) := (HB.out.cell (Lib.lt_of_cell HC.out)).trans HC.out
      rw [← hbx] at CD
      clear hXs hbx hx
      cases hb : (lowF (bl f1) == lowF x) with
      | false =>
        rw [hb] at CD HTK
        clear hb
        go_wp2_with fail
        refine (CD.out _ y3).mono ?_
        rintro e w5 ⟨rfl, b5⟩
        have B5 := Lib.hid (HB.out.trans (b5.mono HB.out.size))
        clear b5
        go_wp2_with fail
        go_roundw
        case rel => exact ⟨k + 1, by go_num, hlt, HTK, B5⟩
        case measure => simp [intOf]; omega
      | true =>
        rw [hb] at CD
        have HY := Lib.hid (show names.any (fun nm => lowF (bl f1) == lowF nm) = true from List.any_eq_true.2 ⟨x, HIN.out, hb⟩)
        clear hb
        go_wp2_with fail
        refine (CD.out _ y3).mono ?_
        rintro e w5 ⟨rfl, b5⟩
        have B5 := Lib.hid (HB.out.trans (b5.mono HB.out.size))
        clear b5
        go_wp2_with fail
        go_ret
        exact ⟨(k : Int), rfl, by rw [HY.out]; simp, B5.out⟩
    · have HN := Lib.hid (show names.any (fun nm => lowF (bl f1) == lowF nm) = false by rw [← HE.out, List.take_of_length_le (by rw [HQ.out]; omega)])
      go_wp2_with fail
      go_ret
      exact ⟨-1, rfl, by rw [HN.out]; rfl, HB.out⟩
theorem contains_any {P' : Nat → Prop} (X : World) (A' : Option Addr) (names : List (List UInt8)) (q c' : Nat) (hq : names.length = q) (hqm : q ≤ 140737488351232) (h' : SrcS X P' A' names) (f1 : ByteArray) (g : Nat) (hc : X.cell? ⟨g, 0, none⟩ = some (.string f1)) :
    Calls Tryz.prog 42 #[.slice A' q c', .func (.func 43) #[] #[.pointer (some ⟨g, 0, none⟩)]] X fun e w' => e = .returned (.bool (names.any (fun nm => lowF (bl f1) == lowF nm))) ∧ Below X.heap.size X w' := by
  have CI := Lib.hid (index_any X A' names q c' hq hqm h' f1 g hc)
  clear hq hqm h' hc
  generalize names.any (fun nm => lowF (bl f1) == lowF nm) = b at *
  go_enter Tryz.func42, Tryz.ntmps42
  go_wp2_with fail
  refine CI.out.mono ?_
  rintro e w' ⟨i, rfl, hi, b'⟩
  go_wp2_with fail
  go_ret
  first | exact ⟨ret_bool hi, b'⟩ | exact ⟨rfl, b'⟩

/-- Drop's test. -/
theorem drop1_any {P' : Nat → Prop} (f : Fld) (A' : Option Addr) (names : List (List UInt8)) (q c' : Nat) (hq : names.length = q) (hqm : q ≤ 140737488351232) (g : Nat) (X : World) (hc : X.cell? ⟨g, 0, none⟩ = some (.slice A' q c')) (h' : SrcS X P' A' names) :
    Calls Tryz.prog 41 #[fldA f, .pointer (some ⟨g, 0, none⟩)] X fun e w' => e = .returned (.bool (!goneF names f)) ∧ Below X.heap.size X w' := by
  unfold fldA
  have hb : Below X.heap.size X (X.alloc (.cells #[.string ⟨f.1.toArray⟩, .string ⟨f.2.toArray⟩] 39)) := (Below.refl _ X).alloc (Nat.le_refl _) _
  have z : (X.alloc (.cells #[.string ⟨f.1.toArray⟩, .string ⟨f.2.toArray⟩] 39)).cell? ⟨g, 0, none⟩ = some (.slice A' q c') := (hb.cell (Lib.lt_of_cell hc)).trans hc
  have i0 := Is.made X 39 [.string ⟨f.1.toArray⟩, .string ⟨f.2.toArray⟩]
  have CC := Lib.hid (contains_any (X.alloc (.cells #[.string ⟨f.1.toArray⟩, .string ⟨f.2.toArray⟩] 39)) A' names q c' hq hqm (h'.below hb) ⟨f.1.toArray⟩ X.heap.size (i0.cell 0))
  rw [bl_mk] at CC
  rw [show goneF names f = names.any (fun nm => lowF f.1 == lowF nm) from rfl]
  have HB := Lib.hid hb
  generalize names.any (fun nm => lowF f.1 == lowF nm) = b at *
  clear hc i0 hb hq hqm h'
  generalize f.1 = f1 at *
  generalize f.2 = f2 at *
  go_enter Tryz.func41, Tryz.ntmps41
  go_wp2_with fail
  refine CC.out.mono ?_
  rintro e w' ⟨rfl, b'⟩
  go_wp2_with fail
  go_ret
  exact ⟨rfl, HB.out.trans (b'.mono HB.out.size)⟩

theorem drop_any {P P' : Nat → Prop} (w : World) (A A' : Option Addr) (ls : List Fld) (names : List (List UInt8)) (n c q c' : Nat) (hn : ls.length = n) (hq : names.length = q) (hmax : n * 32 ≤ 140737488355328) (hqm : q ≤ 140737488351232) (h : SrcF w P A ls) (h' : SrcS w P' A' names) (hs : Slim ls) :
    Calls Tryz.prog 20 #[.slice A n c, .slice A' q c'] w (GotF (dropF ls names) w) := by
  have hb0 : Below w.heap.size w (w.alloc (.cells #[.slice A' q c'] 49)) := (Below.refl _ _).alloc (Nat.le_refl _) _
  have i0 := Is.made w 49 [.slice A' q c']
  have CK := Lib.hid (keep_any 41 (.inr rfl) (.pointer (some ⟨w.heap.size, 0, none⟩)) (fun f => !goneF names f) (w.alloc (.cells #[.slice A' q c'] 49)) A ls n c hn hmax (h.below hb0) hs (fun f _ X hX =>
    drop1_any f A' names q c' hq hqm w.heap.size X ((i0.kept (Turn.of_below (S := fun _ => False) hX) (fun h => h)).cell 0) ((h'.below hb0).below hX)))
  rw [show ls.filter (fun f => !goneF names f) = dropF ls names from rfl] at CK
  have HB0 := Lib.hid hb0
  clear hb0 i0 h h' hs hn hq
  generalize dropF ls names = fs at *
  go_enter Tryz.func20, Tryz.ntmps20
  go_wp2_with fail
  refine CK.out.mono ?_
  rintro e w1 ⟨v1, o1, rfl, own1, ob1, b1⟩
  go_wp2_with fail
  go_ret
  exact ⟨v1, o1, rfl, own1, fun b hb => Nat.le_trans HB0.out.size (ob1 b hb), HB0.out.trans (b1.mono HB0.out.size)⟩

end Go.Proofs.YtopanahgeeolbaaGreatDoor

namespace Go.Proofs.YtopanahgeeolbaaGreatDoor.Aut
open Go.RowKit

theorem getF_app (a b : List Fld) (nm : List UInt8) : getF (a ++ b) nm = getF a nm ++ getF b nm := by
  unfold getF
  rw [List.filter_append, List.map_append]
theorem same_auth : (lowF nameL == lowF authN) = true := by decide +kernel
theorem getF_of (t : List UInt8) : getF [ofF t] authN = [bearS ++ t] := by
  unfold getF
  rw [List.filter_cons_of_pos (show sameN authN (ofF t) = true from same_auth)]
  rfl
theorem getF_bare (ls : List Fld) : getF (dropF ls [authN]) authN = [] := by
  unfold getF dropF
  rw [List.filter_filter]
  have : ls.filter (fun f => sameN authN f && !goneF [authN] f) = [] := by
    rw [List.filter_eq_nil_iff]
    intro f _
    have : goneF [authN] f = sameN authN f := by simp [goneF, sameN]
    rw [this]
    simp
  rw [this]
  rfl
theorem getF_cons (f : Fld) (ls : List Fld) (nm : List UInt8) : getF (f :: ls) nm = (if sameN nm f = true then [f.2] else []) ++ getF ls nm := by
  unfold getF
  cases h : sameN nm f <;> simp [h]
theorem cred_is {t v : List UInt8} (h : credIs t v = true) : credF v = some t := by
  unfold credIs at h
  split at h
  · rename_i x hx
    rw [hx, beq_iff_eq.1 h]
  · cases h
theorem holds_val {t : List UInt8} {ls : List Fld} (h : holdsF t ls = true) : ∃ v, getF ls authN = [v] ∧ credF v = some t := by
  unfold holdsF at h
  split at h
  · rename_i v hv
    exact ⟨v, hv, cred_is h⟩
  · cases h
theorem holds_one {t u : List UInt8} {ls : List Fld} (h : holdsF t ls = true) (h' : holdsF u ls = true) : t = u := by
  obtain ⟨v, h1, h2⟩ := holds_val h
  obtain ⟨v', h3, h4⟩ := holds_val h'
  rw [h1] at h3
  injection h3 with h3
  subst h3
  rw [h2] at h4
  exact Option.some.inj h4
theorem holds_may {t : List UInt8} {ls : List Fld} (h : holdsF t ls = true) : mayT t = true := by
  obtain ⟨v, _, h2⟩ := holds_val h
  exact cred_may h2
theorem holds_none {t : List UInt8} {ls : List Fld} (h : getF ls authN = []) : holdsF t ls = false := by
  unfold holdsF
  rw [h]
theorem holds_two {t x y : List UInt8} {r : List (List UInt8)} {ls : List Fld} (h : getF ls authN = x :: y :: r) : holdsF t ls = false := by
  unfold holdsF
  rw [h]
theorem holds_bare (t : List UInt8) (ls : List Fld) : holdsF t (dropF ls [authN]) = false := holds_none (getF_bare ls)
theorem cred_own {t : List UInt8} (h : t.head? ≠ some 32) : credIs t (bearS ++ t) = mayT t := by
  unfold credIs
  rw [cred_of t h]
  cases hm : mayT t <;> simp
theorem holds_own {t : List UInt8} {ls : List Fld} (hb : getF ls authN = []) (h : t.head? ≠ some 32) : holdsF t (ls ++ [ofF t]) = mayT t := by
  unfold holdsF
  rw [getF_app, hb, getF_of]
  exact cred_own h
theorem holds_twice {t u : List UInt8} {ls : List Fld} (hb : getF ls authN = []) : holdsF t ((ls ++ [ofF t]) ++ [ofF u]) = false :=
  holds_two (x := bearS ++ t) (y := bearS ++ u) (r := []) (by rw [getF_app, getF_app, hb, getF_of, getF_of]; rfl)
theorem holds_ahead {t u : List UInt8} {ls : List Fld} (hb : getF ls authN = []) : holdsF t ([ofF u] ++ (ls ++ [ofF t])) = false :=
  holds_two (x := bearS ++ u) (y := bearS ++ t) (r := []) (by rw [getF_app, getF_app, hb, getF_of, getF_of]; rfl)
theorem holds_first {t : List UInt8} {f : Fld} {ls : List Fld} (hb : getF ls authN = []) (hf : sameN authN f = true) : holdsF t ([f] ++ (ls ++ [ofF t])) = false :=
  holds_two (x := f.2) (y := bearS ++ t) (r := []) (by rw [List.singleton_append, getF_cons, if_pos hf, getF_app, hb, getF_of]; rfl)
theorem holds_skip {t : List UInt8} {f : Fld} {ls : List Fld} (hf : sameN authN f = false) : holdsF t ([f] ++ ls) = holdsF t ls := by
  unfold holdsF
  rw [List.singleton_append, getF_cons, if_neg (by rw [hf]; simp)]
  rfl
/-! ## in memory -/
theorem ownf_src {w : World} {v : Value} {o : Option Nat} {ls : List Fld} {n : Nat} (h : OwnF w v o ls) (hn : ls.length = n) : ∃ A c, v = .slice A n c := by
  obtain ⟨A, c, hv, _⟩ := h.src (fun _ => True) (fun _ _ => trivial)
  exact ⟨A, c, by rw [hv, hn]⟩
theorem ownf_at {w : World} {A : Option Addr} {n c : Nat} {o : Option Nat} {ls : List Fld} (h : OwnF w (.slice A n c) o ls) : SrcF w (fun _ => True) A ls := by
  obtain ⟨A', c', hv, s⟩ := h.src (fun _ => True) (fun _ _ => trivial)
  injection hv with h1 h2 h3
  rw [h1]
  exact s
theorem ownf_turn {w w' : World} {v : Value} {o ox : Option Nat} {ls : List Fld} (h : OwnF w v o ls) (ht : Turn (fun k => ox = some k) w w') (hx : ∀ k, o = some k → ox = some k → False) : OwnF w' v o ls := h.kept ht hx
theorem of_slim {t : List UInt8} (h : t.length ≤ 140737488351232) : SlimB [ofF t] := fun f hf => by
  simp only [List.mem_cons, List.not_mem_nil, or_false] at hf
  subst hf
  refine ⟨by show nameL.length ≤ _; decide, ?_⟩
  show (bearS ++ t).length ≤ _
  rw [List.length_append, show bearS.length = 7 from rfl]
  omega
theorem SlimB.app {a b : List Fld} (ha : SlimB a) (hb : SlimB b) : SlimB (a ++ b) := fun f hf => by
  rcases List.mem_append.1 hf with h | h
  · exact ha f h
  · exact hb f h
theorem SlimB.drop {a : List Fld} (ha : SlimB a) (nm : List (List UInt8)) : SlimB (dropF a nm) := fun f hf => ha f (List.mem_filter.1 hf).1
end Go.Proofs.YtopanahgeeolbaaGreatDoor.Aut

namespace Go.Proofs.YtopanahgeeolbaaGreatDoor.Aut
open Go.RowKit Acl

theorem conf_parts {L : List TeE} {st ti : Int} (h : confF L st ti = true) : (1 ≤ L.length ∧ L.length ≤ 8 ∧ limC st ti = true) ∧ L.all tenF = true ∧ unlF L = true := by
  unfold confF at h
  simp only [Bool.and_eq_true, decide_eq_true_eq] at h
  exact ⟨⟨h.1.1.1, h.1.1.2, h.1.2⟩, h.2.1, h.2.2⟩
theorem conf_may {L : List TeE} {st ti : Int} (h : confF L st ti = true) (t : TeE) (ht : t ∈ L) : mayT (bl t.tok) = true := by
  have := List.all_eq_true.1 (conf_parts h).2.1 t ht
  unfold tenF at this
  exact (Bool.and_eq_true_iff.1 this).1
/-- Two tenants of one token are one. -/
theorem unl_get {L : List TeE} (h : unlF L = true) {i k : Nat} {t u : TeE} (hi : L[i]? = some t) (hk : L[k]? = some u) (e : bl t.tok = bl u.tok) : i = k := by
  have hn := of_decide_eq_true h
  have h1 : (L.map fun t => bl t.tok)[i]? = some (bl t.tok) := by rw [List.getElem?_map, hi]; rfl
  have h2 : (L.map fun t => bl t.tok)[k]? = some (bl u.tok) := by rw [List.getElem?_map, hk]; rfl
  exact (List.getElem?_inj (List.getElem?_eq_some_iff.1 h1).1 hn).1 (by rw [h1, h2, e])
theorem holds_of (t u : List UInt8) (hu : mayT u = true) : holdsF t [ofF u] = (u == t) := by
  unfold holdsF
  rw [getF_of]
  simp only
  unfold credIs
  rw [cred_of u (may_head hu), if_pos hu]
/-- How many of the first tenants' tokens the fields hold: at most one. -/
def Held (L : List TeE) (ls : List Fld) (k hd : Nat) : Prop := hd = 0 ∨ (hd = 1 ∧ ∃ (i : Nat) (u : TeE), i < k ∧ L[i]? = some u ∧ holdsF (bl u.tok) ls = true)
theorem Held.no {L : List TeE} {ls : List Fld} {k hd : Nat} (h : Held L ls k hd) : Held L ls (k + 1) hd := by
  rcases h with h | ⟨h, i, u, hi, hr⟩
  · exact .inl h
  · exact .inr ⟨h, i, u, by omega, hr⟩
theorem Held.yes {L : List TeE} {ls : List Fld} {k hd : Nat} {t : TeE} (h : Held L ls k hd) (hu : unlF L = true) (ht : L[k]? = some t) (hh : holdsF (bl t.tok) ls = true) : hd = 0 ∧ Held L ls (k + 1) (hd + 1) := by
  have h0 : hd = 0 := by
    rcases h with h | ⟨_, i, u, hi, hu1, hu2⟩
    · exact h
    · have := unl_get hu hu1 ht (holds_one hu2 hh)
      omega
  exact ⟨h0, .inr ⟨by omega, k, t, by omega, ht, hh⟩⟩
theorem cells3 {w w' : World} {a b d : Addr} {u v x : Value} (h : w.cell? a = some u ∧ w.cell? b = some v ∧ w.cell? d = some x) (hb : Below w.heap.size w w') : w'.cell? a = some u ∧ w'.cell? b = some v ∧ w'.cell? d = some x :=
  ⟨(hb.cell (Lib.lt_of_cell h.1)).trans h.1, (hb.cell (Lib.lt_of_cell h.2.1)).trans h.2.1, (hb.cell (Lib.lt_of_cell h.2.2)).trans h.2.2⟩
theorem below_drewP {B : Nat} {a w : World} (h : Below B a w) : Below B a w.drew := ⟨h.os, h.tape, h.output, h.size, h.block⟩

set_option maxHeartbeats 8000000 in
set_option maxRecDepth 100000 in
theorem apart_law (w : World) (A : Option Addr) (L : List TeE) (n c : Nat) (st ti : Int) (hn : L.length = n) (hmax : n ≤ 140737488351232) (h : SrcT w (fun _ => True) A L) (hok : ∀ t ∈ L, t.Ok w) (Al : Option Addr) (ls : List Fld) (nl cl : Nat) (hnl : ls.length = nl) (hml : nl * 32 ≤ 140737488355328) (hl : SrcF w (fun _ => True) Al ls) (hsl : SlimB ls) (hp : PowTab w) :
    Calls Tryz.prog 6 #[.agg #[.slice A n c, .int .i64 st, .int .i64 ti], .slice Al nl cl] w fun e w' => e = .returned (.bool true) ∧ Below w.heap.size w w' := by
  have I0 := Lib.hid (Conf.box (w := w) A n c st ti)
  have B0 : Hid (Below w.heap.size w (w.alloc (.cells #[.slice A n c, .int .i64 st, .int .i64 ti] 24))) := Lib.hid ((Below.refl _ _).alloc (Nat.le_refl _) _)
  have CC := Lib.hid (config_any (w.alloc (.cells #[.slice A n c, .int .i64 st, .int .i64 ti] 24)) A L n c st ti hn hmax (h.below B0.out) (fun t ht => (hok t ht).below B0.out) (hp.below B0.out))
  have CW := Lib.hid (fun (W : World) (hB : Below w.heap.size w W) => wakes_any W (hp.below hB))
  have CH := Lib.hid (fun (W : World) (hB : Below w.heap.size w W) (T : ByteArray) => holds_any T W Al ls nl cl hnl hml (hl.below hB) hsl)
  have HN := Lib.hid hn
  have H := Lib.hid h
  have HTS := Lib.hid (show ∀ t ∈ L, t.tok.size ≤ 140737488351232 from fun t ht => (hok t ht).ht)
  clear hn hmax h hok hnl hml hl hsl hp
  cases hc : confF L st ti with
  | false =>
    rw [hc] at CC
    clear hc
    go_enter Tryz.func6, Tryz.ntmps6
    go_wp2_with fail
    refine CC.out.mono ?_
    rintro e w1 ⟨rfl, b1⟩
    have B1 := Lib.hid (B0.out.trans (b1.mono B0.out.size))
    clear b1
    go_wp2_with fail
    refine (CW.out _ B1.out).mono ?_
    rintro e w2 ⟨rfl, b2⟩
    have B2 := Lib.hid (B1.out.trans (b2.mono B1.out.size))
    clear b2
    go_wp2_with fail
    go_ret
    exact ⟨rfl, B2.out⟩
  | true =>
    rw [hc] at CC
    have HU := Lib.hid (conf_parts hc).2.2
    have HM := Lib.hid (conf_may hc)
    have H8 := Lib.hid (show n ≤ 8 by have := (conf_parts hc).1.2.1; rw [HN.out] at this; exact this)
    clear hc
    go_enter Tryz.func6, Tryz.ntmps6
    go_wp2_with fail
    refine CC.out.mono ?_
    rintro e w1 ⟨rfl, b1⟩
    have I1 := Lib.hid (is_below I0.out b1)
    have B1 := Lib.hid (B0.out.trans (b1.mono B0.out.size))
    clear b1 CC I0 B0
    obtain ⟨g, hg⟩ : ∃ g, w.heap.size = g := ⟨_, rfl⟩
    rw [hg] at I1 ⊢
    have HG := Lib.hid hg
    clear hg
    go_wp2_with fail
    go_loopw [5, 6, 7] (fun vh vi _ wr => ∃ k hd : Nat, vh = .int .i64 (hd : Int) ∧ vi = .int .i64 (k : Int) ∧ k ≤ n ∧ Hid (Held L ls k hd) ∧ Hid (Below w1.heap.size w1 wr)) (fun _ vi _ _ => n - (intOf vi).toNat)
    case atStart => exact ⟨0, 0, rfl, rfl, Nat.zero_le _, Lib.hid (.inl rfl), Lib.hid (Below.refl _ _)⟩
    case round =>
      obtain ⟨k, hd, rfl, rfl, hk, HD, HB⟩ := hrel
      have IR := Lib.hid (is_below I1.out HB.out)
      have BW := Lib.hid (B1.out.trans (HB.out.mono B1.out.size))
      have x0 := IR.out.cell 0
      simp only [List.getElem?_cons_zero] at x0
      have h8 := H8.out
      by_cases hlt : k < n
      · obtain ⟨p, t, ht, hat, _, y0, _⟩ := H.out.at (c := c) HN.out hlt BW.out
        have HT := Lib.hid ht
        have CT := Lib.hid (CH.out wr BW.out t.tok)
        clear ht
        have rest : ∀ (hd' : Nat) (wq : World) (a : Act), True := fun _ _ _ => trivial
        clear rest
        cases hb : holdsF (bl t.tok) ls with
        | true =>
          rw [hb] at CT
          obtain ⟨h0, h1⟩ := HD.out.yes HU.out HT.out hb
          subst h0
          have HD1 := Lib.hid h1
          clear hb h1
          go_wp2_with fail
          refine CT.out.mono ?_
          rintro e w2 ⟨rfl, b2⟩
          have HB2 := Lib.hid (HB.out.trans (b2.mono HB.out.size))
          clear b2 x0 y0 hat
          go_wp2_with fail
          go_loopw [7] (fun vj wq => ∃ j : Nat, vj = .int .i64 (j : Int) ∧ j ≤ n ∧ Hid (Below w1.heap.size w1 wq)) (fun vj _ => n - (intOf vj).toNat)
          case atStart => exact ⟨0, rfl, Nat.zero_le _, HB2⟩
          case round =>
            obtain ⟨j, rfl, hj, HQ⟩ := hrel
            have IQ := Lib.hid (is_below I1.out HQ.out)
            have BQ := Lib.hid (B1.out.trans (HQ.out.mono B1.out.size))
            have q0 := IQ.out.cell 0
            simp only [List.getElem?_cons_zero] at q0
            by_cases hjn : j < n
            · obtain ⟨pj, u, hu, hatj, _, u0, _⟩ := H.out.at (c := c) HN.out hjn BQ.out
              obtain ⟨pk, t', ht', hatk, _, t0, _⟩ := H.out.at (c := c) HN.out hlt BQ.out
              rw [HT.out] at ht'
              injection ht' with ht'
              subst ht'
              have hans : holdsF (bl u.tok) [ofF (bl t.tok)] = decide ((k : Int) = (j : Int)) := by
                rw [holds_of _ _ (HM.out t (List.mem_of_getElem? HT.out)), Bool.eq_iff_iff, beq_iff_eq, decide_eq_true_eq]
                constructor
                · intro e
                  have := unl_get HU.out HT.out hu e
                  omega
                · intro e
                  have e : k = j := by omega
                  subst e
                  have := HT.out.symm.trans hu
                  injection this with this
                  rw [this]
              have HAN := Lib.hid hans
              have CY := Lib.hid (fun W : World => of_any t.tok W (HTS.out t (List.mem_of_getElem? HT.out)))
              have CX := Lib.hid (fun (W : World) (A1 : Option Addr) (c1 : Nat) (s : SrcF W (fun _ => True) A1 [ofF (bl t.tok)]) => holds_any u.tok W A1 [ofF (bl t.tok)] 1 c1 rfl (by omega) s (of_slim (by rw [bl_length]; exact HTS.out t (List.mem_of_getElem? HT.out))))
              rw [HAN.out] at CX
              clear hu hans
              have D0 : Hid (Below w1.heap.size w1 wr.drew) := Lib.hid (below_drewP HQ.out)
              have J0 := Lib.hid IQ.out.drew
              have c0 : wr.drew.cell? ⟨g, 0, none⟩ = some (.slice A n c) ∧ wr.drew.cell? pj = some (.string u.tok) ∧ wr.drew.cell? pk = some (.string t.tok) := ⟨q0, u0, t0⟩
              have x0 : wr.cell? ⟨g, 0, none⟩ = some (.slice A n c) ∧ wr.cell? pj = some (.string u.tok) ∧ wr.cell? pk = some (.string t.tok) := ⟨q0, u0, t0⟩
              have C0 := Lib.hid c0
              have CY0 := Lib.hid (CY.out wr.drew)
              clear CY c0 q0 u0 t0
              by_cases hkj : (k : Int) = (j : Int)
              · rw [decide_eq_true hkj] at CX
                have e1 : ((k : Int) == (j : Int)) = true := beq_iff_eq.2 hkj
                clear hkj
                go_wp2_with fail
                go_region_held3 (fun w' => w'.cell? ⟨g, 0, none⟩ = some (.slice A n c) ∧ w'.cell? pj = some (.string u.tok) ∧ w'.cell? pk = some (.string t.tok)) (first | exact x0 | exact x1 | exact x2 | go_keep)
                  (first | (go_at_call 21; (with_reducible refine CY0.out.mono ?_); rintro e v1 ⟨uv, o1, rfl, own1, _, b1⟩; obtain ⟨A1, c1, hv1⟩ := ownf_src own1 (show [ofF (bl t.tok)].length = 1 from rfl); subst hv1; have x1 : v1.cell? ⟨g, 0, none⟩ = some (.slice A n c) ∧ v1.cell? pj = some (.string u.tok) ∧ v1.cell? pk = some (.string t.tok) := cells3 C0.out b1; have D1 := Lib.hid (D0.out.trans (b1.mono D0.out.size)); have CX1 := Lib.hid (CX.out v1 A1 c1 (ownf_at own1)); clear b1 own1) | (go_at_call 18; (with_reducible refine CX1.out.mono ?_); rintro e v2 ⟨rfl, b2⟩; have x2 : v2.cell? ⟨g, 0, none⟩ = some (.slice A n c) ∧ v2.cell? pj = some (.string u.tok) ∧ v2.cell? pk = some (.string t.tok) := cells3 x1 b2; have D2 := Lib.hid (D1.out.trans (b2.mono D1.out.size)); clear b2))
                all_goals
                  go_wp2_with fail
                  go_roundw
                  case rel => exact ⟨j + 1, by go_num, hjn, D2⟩
                  case measure => simp [intOf]; omega
              · rw [decide_eq_false hkj] at CX
                have e1 : ((k : Int) == (j : Int)) = false := beq_eq_false_iff_ne.2 hkj
                clear hkj
                go_wp2_with fail
                go_region_held3 (fun w' => w'.cell? ⟨g, 0, none⟩ = some (.slice A n c) ∧ w'.cell? pj = some (.string u.tok) ∧ w'.cell? pk = some (.string t.tok)) (first | exact x0 | exact x1 | exact x2 | go_keep)
                  (first | (go_at_call 21; (with_reducible refine CY0.out.mono ?_); rintro e v1 ⟨uv, o1, rfl, own1, _, b1⟩; obtain ⟨A1, c1, hv1⟩ := ownf_src own1 (show [ofF (bl t.tok)].length = 1 from rfl); subst hv1; have x1 : v1.cell? ⟨g, 0, none⟩ = some (.slice A n c) ∧ v1.cell? pj = some (.string u.tok) ∧ v1.cell? pk = some (.string t.tok) := cells3 C0.out b1; have D1 := Lib.hid (D0.out.trans (b1.mono D0.out.size)); have CX1 := Lib.hid (CX.out v1 A1 c1 (ownf_at own1)); clear b1 own1) | (go_at_call 18; (with_reducible refine CX1.out.mono ?_); rintro e v2 ⟨rfl, b2⟩; have x2 : v2.cell? ⟨g, 0, none⟩ = some (.slice A n c) ∧ v2.cell? pj = some (.string u.tok) ∧ v2.cell? pk = some (.string t.tok) := cells3 x1 b2; have D2 := Lib.hid (D1.out.trans (b2.mono D1.out.size)); clear b2))
                all_goals
                  go_wp2_with fail
                  go_roundw
                  case rel => exact ⟨j + 1, by go_num, hjn, D2⟩
                  case measure => simp [intOf]; omega
            · go_wp2_with fail
              go_roundw
              case rel => exact ⟨k + 1, 0 + 1, by go_num, by go_num, hlt, HD1, HQ⟩
              case measure => simp [intOf]; omega
        | false =>
          rw [hb] at CT
          have HD1 := Lib.hid HD.out.no
          clear hb
          go_wp2_with fail
          refine CT.out.mono ?_
          rintro e w2 ⟨rfl, b2⟩
          have HB2 := Lib.hid (HB.out.trans (b2.mono HB.out.size))
          clear b2 x0 y0 hat
          go_wp2_with fail
          go_loopw [7] (fun vj wq => ∃ j : Nat, vj = .int .i64 (j : Int) ∧ j ≤ n ∧ Hid (Below w1.heap.size w1 wq)) (fun vj _ => n - (intOf vj).toNat)
          case atStart => exact ⟨0, rfl, Nat.zero_le _, HB2⟩
          case round =>
            obtain ⟨j, rfl, hj, HQ⟩ := hrel
            have IQ := Lib.hid (is_below I1.out HQ.out)
            have BQ := Lib.hid (B1.out.trans (HQ.out.mono B1.out.size))
            have q0 := IQ.out.cell 0
            simp only [List.getElem?_cons_zero] at q0
            by_cases hjn : j < n
            · obtain ⟨pj, u, hu, hatj, _, u0, _⟩ := H.out.at (c := c) HN.out hjn BQ.out
              obtain ⟨pk, t', ht', hatk, _, t0, _⟩ := H.out.at (c := c) HN.out hlt BQ.out
              rw [HT.out] at ht'
              injection ht' with ht'
              subst ht'
              have hans : holdsF (bl u.tok) [ofF (bl t.tok)] = decide ((k : Int) = (j : Int)) := by
                rw [holds_of _ _ (HM.out t (List.mem_of_getElem? HT.out)), Bool.eq_iff_iff, beq_iff_eq, decide_eq_true_eq]
                constructor
                · intro e
                  have := unl_get HU.out HT.out hu e
                  omega
                · intro e
                  have e : k = j := by omega
                  subst e
                  have := HT.out.symm.trans hu
                  injection this with this
                  rw [this]
              have HAN := Lib.hid hans
              have CY := Lib.hid (fun W : World => of_any t.tok W (HTS.out t (List.mem_of_getElem? HT.out)))
              have CX := Lib.hid (fun (W : World) (A1 : Option Addr) (c1 : Nat) (s : SrcF W (fun _ => True) A1 [ofF (bl t.tok)]) => holds_any u.tok W A1 [ofF (bl t.tok)] 1 c1 rfl (by omega) s (of_slim (by rw [bl_length]; exact HTS.out t (List.mem_of_getElem? HT.out))))
              rw [HAN.out] at CX
              clear hu hans
              have D0 : Hid (Below w1.heap.size w1 wr.drew) := Lib.hid (below_drewP HQ.out)
              have J0 := Lib.hid IQ.out.drew
              have c0 : wr.drew.cell? ⟨g, 0, none⟩ = some (.slice A n c) ∧ wr.drew.cell? pj = some (.string u.tok) ∧ wr.drew.cell? pk = some (.string t.tok) := ⟨q0, u0, t0⟩
              have x0 : wr.cell? ⟨g, 0, none⟩ = some (.slice A n c) ∧ wr.cell? pj = some (.string u.tok) ∧ wr.cell? pk = some (.string t.tok) := ⟨q0, u0, t0⟩
              have C0 := Lib.hid c0
              have CY0 := Lib.hid (CY.out wr.drew)
              clear CY c0 q0 u0 t0
              by_cases hkj : (k : Int) = (j : Int)
              · rw [decide_eq_true hkj] at CX
                have e1 : ((k : Int) == (j : Int)) = true := beq_iff_eq.2 hkj
                clear hkj
                go_wp2_with fail
                go_region_held3 (fun w' => w'.cell? ⟨g, 0, none⟩ = some (.slice A n c) ∧ w'.cell? pj = some (.string u.tok) ∧ w'.cell? pk = some (.string t.tok)) (first | exact x0 | exact x1 | exact x2 | go_keep)
                  (first | (go_at_call 21; (with_reducible refine CY0.out.mono ?_); rintro e v1 ⟨uv, o1, rfl, own1, _, b1⟩; obtain ⟨A1, c1, hv1⟩ := ownf_src own1 (show [ofF (bl t.tok)].length = 1 from rfl); subst hv1; have x1 : v1.cell? ⟨g, 0, none⟩ = some (.slice A n c) ∧ v1.cell? pj = some (.string u.tok) ∧ v1.cell? pk = some (.string t.tok) := cells3 C0.out b1; have D1 := Lib.hid (D0.out.trans (b1.mono D0.out.size)); have CX1 := Lib.hid (CX.out v1 A1 c1 (ownf_at own1)); clear b1 own1) | (go_at_call 18; (with_reducible refine CX1.out.mono ?_); rintro e v2 ⟨rfl, b2⟩; have x2 : v2.cell? ⟨g, 0, none⟩ = some (.slice A n c) ∧ v2.cell? pj = some (.string u.tok) ∧ v2.cell? pk = some (.string t.tok) := cells3 x1 b2; have D2 := Lib.hid (D1.out.trans (b2.mono D1.out.size)); clear b2))
                all_goals
                  go_wp2_with fail
                  go_roundw
                  case rel => exact ⟨j + 1, by go_num, hjn, D2⟩
                  case measure => simp [intOf]; omega
              · rw [decide_eq_false hkj] at CX
                have e1 : ((k : Int) == (j : Int)) = false := beq_eq_false_iff_ne.2 hkj
                clear hkj
                go_wp2_with fail
                go_region_held3 (fun w' => w'.cell? ⟨g, 0, none⟩ = some (.slice A n c) ∧ w'.cell? pj = some (.string u.tok) ∧ w'.cell? pk = some (.string t.tok)) (first | exact x0 | exact x1 | exact x2 | go_keep)
                  (first | (go_at_call 21; (with_reducible refine CY0.out.mono ?_); rintro e v1 ⟨uv, o1, rfl, own1, _, b1⟩; obtain ⟨A1, c1, hv1⟩ := ownf_src own1 (show [ofF (bl t.tok)].length = 1 from rfl); subst hv1; have x1 : v1.cell? ⟨g, 0, none⟩ = some (.slice A n c) ∧ v1.cell? pj = some (.string u.tok) ∧ v1.cell? pk = some (.string t.tok) := cells3 C0.out b1; have D1 := Lib.hid (D0.out.trans (b1.mono D0.out.size)); have CX1 := Lib.hid (CX.out v1 A1 c1 (ownf_at own1)); clear b1 own1) | (go_at_call 18; (with_reducible refine CX1.out.mono ?_); rintro e v2 ⟨rfl, b2⟩; have x2 : v2.cell? ⟨g, 0, none⟩ = some (.slice A n c) ∧ v2.cell? pj = some (.string u.tok) ∧ v2.cell? pk = some (.string t.tok) := cells3 x1 b2; have D2 := Lib.hid (D1.out.trans (b2.mono D1.out.size)); clear b2))
                all_goals
                  go_wp2_with fail
                  go_roundw
                  case rel => exact ⟨j + 1, by go_num, hjn, D2⟩
                  case measure => simp [intOf]; omega
            · go_wp2_with fail
              go_roundw
              case rel => exact ⟨k + 1, hd, by go_num, by go_num, hlt, HD1, HQ⟩
              case measure => simp [intOf]; omega
      · have hle : hd ≤ 1 := by
          rcases HD.out with h | ⟨h, _⟩
          · omega
          · omega
        have e1 : (hd : Int) ≤ 1 := by omega
        clear hle
        go_wp2_with fail
        refine (CW.out _ BW.out).mono ?_
        rintro e w3 ⟨rfl, b3⟩
        have B3 := Lib.hid (BW.out.trans (b3.mono BW.out.size))
        clear b3
        go_wp2_with fail
        go_ret
        exact ⟨rfl, B3.out⟩
end Go.Proofs.YtopanahgeeolbaaGreatDoor.Aut
