/-
  The landed chunk.Take: the walk from label to label.
  Conditions: those that each theorem names.
-/
import Derived.Test.YtemgfppclakdmaaGreatDoorKB
import Derived.Test.YtemgfppclakdmaaGreatDoorHO
import Derived.Test.YtemgfppclakdmaaGreatDoorCO
import Derived.Test.YtemgfppclakdmaaGreatDoorCF
import Derived.Test.YtemgfppclakdmaaGreatDoorTP
import Derived.StillTailTactics
namespace Go.Proofs.YtemgfppclakdmaaGreatDoor
open Go.RowKit

/-- What the next byte is, or what is told if there is none. -/
def NextP (R : List Fld × Nat × Nat) (g : Nat) (A : Option Addr) (n c k cnt : Nat) (bs : List UInt8) (ends : Bool) (w : World) (e : Ending) (w' : World) : Prop :=
  Turn (· = g) w w' ∧ ((∃ r : Nat, r ≠ 0 ∧ e = .returned (.int .i64 (r : Int)) ∧ R = ([], 0, r)) ∨
    (∃ (x : UInt8) (cs : ByteArray) (cnt' : Nat), k < n ∧ k < 2048 ∧ bs[k]? = some x ∧ cs = ⟨[x].toArray⟩ ∧ e = .returned (.int .i64 0) ∧ Rd w' g A n c (k + 1) cs cnt' ∧ cnt' = (if (x == 13 || ends) = true then cnt else cnt + 1) ∧ cnt' ≤ 512))
theorem next_at (w : World) (g : Nat) (A : Option Addr) (n c k cnt part : Nat) (last : ByteArray) (bs nm v : List UInt8) (l : List Fld) (R : List Fld × Nat × Nat) (ends : Bool) (h : Rd w g A n c k last cnt) (hn : bs.length = n) (hnc : n ≤ c) (hk : k ≤ n) (hk2 : k ≤ 2048)
    (hs : Src w (fun b => b ≠ g) A bs) (he : (last.toList == [13]) = ends) (hc : cnt ≤ 512) (hR : runF k part cnt nm v l (bs.drop k) = R)
    (hover : ∀ x : UInt8, (x == 13 || ends) = false → k < 2048 → 512 < cnt + 1 → stepF k x part cnt nm v l = .stop [] 0 21) :
    Calls Tryz.prog 117 #[.pointer (some ⟨g, 0, none⟩)] w (NextP R g A n c k cnt bs ends w) := by
  by_cases h1 : k = n
  · subst h1
    refine (next_more w g A k c cnt last h).mono ?_
    rintro e w' ⟨rfl, hq⟩
    refine ⟨hq.turn.mono (fun _ _ h => h.elim), .inl ⟨8, by omega, rfl, ?_⟩⟩
    rw [← hR, List.drop_of_length_le (by omega)]
    rfl
  · obtain ⟨x, hx⟩ : ∃ x, bs[k]? = some x := ⟨bs[k]'(by omega), List.getElem?_eq_getElem _⟩
    have hd := drop_cons5 hx
    by_cases h2 : k = 2048
    · subst h2
      refine (next_big w g A n c cnt last h (by omega)).mono ?_
      rintro e w' ⟨rfl, hq⟩
      refine ⟨hq.turn.mono (fun _ _ h => h.elim), .inl ⟨21, by omega, rfl, ?_⟩⟩
      rw [← hR, hd]
      exact runF_stop (by unfold stepF; rw [if_pos (Nat.le_refl _)])
    · refine (next_step w g A n c k cnt last ⟨[x].toArray⟩ bs x h hn hnc hx (by omega) hs rfl ends (x == 13) he rfl hc _ rfl _ rfl).mono ?_
      rintro e w' ⟨rfl, ht, hrd⟩
      refine ⟨ht, ?_⟩
      by_cases h3 : 512 < (if (x == 13 || ends) = true then cnt else cnt + 1)
      · rw [if_pos h3]
        refine .inl ⟨21, by omega, rfl, ?_⟩
        by_cases h4 : (x == 13 || ends) = true
        · rw [if_pos h4] at h3
          omega
        · rw [if_neg h4] at h3
          rw [← hR, hd]
          exact runF_stop (hover x (by simpa using h4) (by omega) h3)
      · rw [if_neg h3]
        exact .inr ⟨x, _, _, by omega, by omega, hx, rfl, rfl, hrd, rfl, by omega⟩

/-- What holds wherever the run stands. -/
structure Cm (W : World) (g : Nat) (A : Option Addr) (n c k cnt : Nat) (last : ByteArray) (bs : List UInt8) (l : List Fld) (vl : Value) (w : World) : Prop where
  rd : Rd w g A n c k last cnt
  own : ∃ o, OwnF w vl o l ∧ ∀ b, o = some b → g < b
  below : Below W.heap.size W w
  size : W.heap.size = g
  src : Src w (fun b => b < g) A bs
theorem Cm.turn {W : World} {g : Nat} {A : Option Addr} {n c k cnt k' cnt' : Nat} {last last' : ByteArray} {bs : List UInt8} {l : List Fld} {vl : Value} {w w' : World} (h : Cm W g A n c k cnt last bs l vl w) (ht : Turn (· = g) w w') (hrd : Rd w' g A n c k' last' cnt') : Cm W g A n c k' cnt' last' bs l vl w' := by
  obtain ⟨o, ho, hg⟩ := h.own
  refine ⟨hrd, ⟨o, ho.kept ht (fun b hb e => by have := hg b hb; omega), hg⟩, ?_, h.size, h.src.kept ht (fun b hb e => by omega)⟩
  have hs := h.size
  exact h.below.trans ⟨ht.os, ht.tape, ht.output, ht.size, fun b hb => ht.block b (by have := h.below.size; omega) (by omega)⟩
theorem Cm.stay {W : World} {g : Nat} {A : Option Addr} {n c k cnt : Nat} {last : ByteArray} {bs : List UInt8} {l : List Fld} {vl : Value} {w w' : World} (h : Cm W g A n c k cnt last bs l vl w) (hb : Below w.heap.size w w') : Cm W g A n c k cnt last bs l vl w' := by
  obtain ⟨o, ho, hg⟩ := h.own
  have ht : Turn (fun _ => False) w w' := Turn.of_below hb
  exact ⟨h.rd.kept ht (fun h => h), ⟨o, ho.kept ht (fun _ _ h => h), hg⟩, h.below.trans (hb.mono h.below.size), h.size, h.src.kept ht (fun _ _ h => h)⟩
theorem Cm.read {W : World} {g : Nat} {A : Option Addr} {n c k cnt : Nat} {last : ByteArray} {bs : List UInt8} {l : List Fld} {vl : Value} {w : World} (h : Cm W g A n c k cnt last bs l vl w) : Src w (fun b => b ≠ g) A bs := h.src.mono (fun _ _ h => by omega)
theorem Cm.push {W : World} {g : Nat} {A : Option Addr} {n c k cnt : Nat} {last : ByteArray} {bs : List UInt8} {l l' : List Fld} {vl v' : Value} {o o' : Option Nat} {w w' : World} (h : Cm W g A n c k cnt last bs l vl w) (hg : ∀ b, o = some b → g < b) (ht : Turn (fun b => o = some b) w w') (own : OwnF w' v' o' l') (ho' : ∀ b, o' = some b → o = some b ∨ w.heap.size ≤ b) : Cm W g A n c k cnt last bs l' v' w' := by
  have hlt : g < w.heap.size := Is.lt h.rd
  have hs := h.size
  refine ⟨h.rd.kept ht (fun e => by have := hg g e; omega), ⟨o', own, fun b hb => ?_⟩, ?_, h.size, h.src.kept ht (fun b hb e => by have := hg b e; omega)⟩
  · rcases ho' b hb with h1 | h1
    · exact hg b h1
    · omega
  · exact h.below.trans ⟨ht.os, ht.tape, ht.output, ht.size, fun b hb => ht.block b (by have := h.below.size; omega) (fun e => by have := hg b e; omega)⟩
theorem Cm.none {W : World} {g : Nat} {A : Option Addr} {n c k cnt : Nat} {last : ByteArray} {bs : List UInt8} {l : List Fld} {vl : Value} {w w' : World} (h : Cm W g A n c k cnt last bs l vl w) (ht : Turn (· = g) w w') : Below W.heap.size W w' := by
  have hs := h.size
  exact h.below.trans ⟨ht.os, ht.tape, ht.output, ht.size, fun b hb => ht.block b (by have := h.below.size; omega) (by omega)⟩

/-- The frame, wherever the run stands. -/
def PF (A : Option Addr) (n c g : Nat) (vf vc vl : Value) (a : Act) : Prop := ∃ u : Nat → Value, a = { tmps := #[.slice A n c, u 1, u 2, u 3, u 4, vl, vf, vc, u 8, .pointer (some ⟨g, 0, none⟩), u 10, u 11, u 12, u 13, u 14, u 15, u 16, u 17, u 18, u 19, u 20, u 21, u 22, u 23, u 24, u 25, u 26, u 27, u 28, u 29, u 30, u 31, u 32, u 33, u 34, u 35, u 36, u 37, u 38, u 39, u 40, u 41, u 42, u 43, u 44, u 45, u 46, u 47, u 48, u 49, u 50, u 51, u 52, u 53, u 54, u 55, u 56, u 57, u 58, u 59, u 60, u 61, u 62, u 63, u 64, u 65, u 66, u 67, u 68, u 69, u 70, u 71, u 72, u 73, u 74, u 75, u 76, u 77, u 78, u 79, u 80, u 81, u 82, u 83], defers := [] }
theorem PF.mk {A : Option Addr} {n c g : Nat} {vf vc vl : Value} {x1 x2 x3 x4 x8 x10 x11 x12 x13 x14 x15 x16 x17 x18 x19 x20 x21 x22 x23 x24 x25 x26 x27 x28 x29 x30 x31 x32 x33 x34 x35 x36 x37 x38 x39 x40 x41 x42 x43 x44 x45 x46 x47 x48 x49 x50 x51 x52 x53 x54 x55 x56 x57 x58 x59 x60 x61 x62 x63 x64 x65 x66 x67 x68 x69 x70 x71 x72 x73 x74 x75 x76 x77 x78 x79 x80 x81 x82 x83 : Value} : PF A n c g vf vc vl { tmps := #[.slice A n c, x1, x2, x3, x4, vl, vf, vc, x8, .pointer (some ⟨g, 0, none⟩), x10, x11, x12, x13, x14, x15, x16, x17, x18, x19, x20, x21, x22, x23, x24, x25, x26, x27, x28, x29, x30, x31, x32, x33, x34, x35, x36, x37, x38, x39, x40, x41, x42, x43, x44, x45, x46, x47, x48, x49, x50, x51, x52, x53, x54, x55, x56, x57, x58, x59, x60, x61, x62, x63, x64, x65, x66, x67, x68, x69, x70, x71, x72, x73, x74, x75, x76, x77, x78, x79, x80, x81, x82, x83], defers := [] } := ⟨fun i => ([undef, x1, x2, x3, x4, undef, undef, undef, x8, undef, x10, x11, x12, x13, x14, x15, x16, x17, x18, x19, x20, x21, x22, x23, x24, x25, x26, x27, x28, x29, x30, x31, x32, x33, x34, x35, x36, x37, x38, x39, x40, x41, x42, x43, x44, x45, x46, x47, x48, x49, x50, x51, x52, x53, x54, x55, x56, x57, x58, x59, x60, x61, x62, x63, x64, x65, x66, x67, x68, x69, x70, x71, x72, x73, x74, x75, x76, x77, x78, x79, x80, x81, x82, x83] : List Value).getD i undef, rfl⟩
/-- What holds at a jump to a label. -/
def JP (W : World) (g : Nat) (A : Option Addr) (n c : Nat) (bs : List UInt8) (R : List Fld × Nat × Nat) (lb m : Nat) (a : Act) (w : World) : Prop :=
  ∃ (k cnt : Nat) (last : ByteArray) (l : List Fld) (ll : Option Addr) (cap : Nat) (vf vc : Value), PF A n c g vf vc (.slice ll l.length cap) a ∧ Cm W g A n c k cnt last bs l (.slice ll l.length cap) w ∧ k ≤ n ∧ k ≤ 2048 ∧ cnt ≤ 512 ∧ l.length ≤ 32 ∧ m = n - k ∧
    match lb with
    | 0 => (last.toList == [13]) = false ∧ ∃ nm v, runF k 0 0 nm v l (bs.drop k) = R
    | 1 => (last.toList == [13]) = true ∧ ∃ fr : Nat, vf = .int .i64 (fr : Int) ∧ ((k = fr + 1 ∧ ∃ nm v, runF k 4 cnt nm v l (bs.drop k) = R) ∨
        (∃ co : Nat, vc = .int .i64 (co : Int) ∧ fr < co ∧ co + 1 < k ∧ l.length < 32 ∧ runF k 3 cnt ((bs.drop fr).take (co - fr)) ((bs.drop (co + 1)).take (k - 1 - (co + 1))) l (bs.drop k) = R))
    | 2 => (last.toList == [13]) = false ∧ ∃ fr : Nat, vf = .int .i64 (fr : Int) ∧ fr < k ∧ l.length < 32 ∧ ∃ v, runF k 1 cnt ((bs.drop fr).take (k - fr)) v l (bs.drop k) = R
    | 3 => (last.toList == [13]) = false ∧ ∃ fr co : Nat, vf = .int .i64 (fr : Int) ∧ vc = .int .i64 (co : Int) ∧ fr < co ∧ co < k ∧ l.length < 32 ∧ runF k 2 cnt ((bs.drop fr).take (co - fr)) ((bs.drop (co + 1)).take (k - (co + 1))) l (bs.drop k) = R
    | _ => False

section
variable {W w : World} {g : Nat} {A : Option Addr} {n c : Nat} {bs : List UInt8} {R : List Fld × Nat × Nat} {a : Act} {k cnt : Nat} {last : ByteArray} {l : List Fld} {ll : Option Addr} {cap : Nat} {vf vc : Value}
theorem JP.at0 (hf : PF A n c g vf vc (.slice ll l.length cap) a) (hcm : Cm W g A n c k cnt last bs l (.slice ll l.length cap) w) (hk : k ≤ n) (hk2 : k ≤ 2048) (hc : cnt ≤ 512) (hl : l.length ≤ 32) (hlast : (last.toList == [13]) = false) (nm v : List UInt8) (hr : runF k 0 0 nm v l (bs.drop k) = R) : JP W g A n c bs R 0 (n - k) a w :=
  ⟨k, cnt, last, l, ll, cap, vf, vc, hf, hcm, hk, hk2, hc, hl, rfl, hlast, nm, v, hr⟩
theorem JP.at0' {len : Nat} (hlen : l.length = len) (hf : PF A n c g vf vc (.slice ll len cap) a) (hcm : Cm W g A n c k cnt last bs l (.slice ll len cap) w) (hk : k ≤ n) (hk2 : k ≤ 2048) (hc : cnt ≤ 512) (hl : l.length ≤ 32) (hlast : (last.toList == [13]) = false) (nm v : List UInt8) (hr : runF k 0 0 nm v l (bs.drop k) = R) : JP W g A n c bs R 0 (n - k) a w := by
  subst hlen
  exact JP.at0 hf hcm hk hk2 hc hl hlast nm v hr
theorem JP.at1a (fr : Nat) (hf : PF A n c g (.int .i64 (fr : Int)) vc (.slice ll l.length cap) a) (hcm : Cm W g A n c k cnt last bs l (.slice ll l.length cap) w) (hk : k ≤ n) (hk2 : k ≤ 2048) (hc : cnt ≤ 512) (hl : l.length ≤ 32) (hlast : (last.toList == [13]) = true) (hfr : k = fr + 1) (nm v : List UInt8) (hr : runF k 4 cnt nm v l (bs.drop k) = R) : JP W g A n c bs R 1 (n - k) a w :=
  ⟨k, cnt, last, l, ll, cap, _, vc, hf, hcm, hk, hk2, hc, hl, rfl, hlast, fr, rfl, .inl ⟨hfr, nm, v, hr⟩⟩
theorem JP.at1b (fr co : Nat) (hf : PF A n c g (.int .i64 (fr : Int)) (.int .i64 (co : Int)) (.slice ll l.length cap) a) (hcm : Cm W g A n c k cnt last bs l (.slice ll l.length cap) w) (hk : k ≤ n) (hk2 : k ≤ 2048) (hc : cnt ≤ 512) (hl : l.length < 32) (hlast : (last.toList == [13]) = true) (h1 : fr < co) (h2 : co + 1 < k)
    (hr : runF k 3 cnt ((bs.drop fr).take (co - fr)) ((bs.drop (co + 1)).take (k - 1 - (co + 1))) l (bs.drop k) = R) : JP W g A n c bs R 1 (n - k) a w :=
  ⟨k, cnt, last, l, ll, cap, _, _, hf, hcm, hk, hk2, hc, Nat.le_of_lt hl, rfl, hlast, fr, rfl, .inr ⟨co, rfl, h1, h2, hl, hr⟩⟩
theorem JP.at2 (fr : Nat) (hf : PF A n c g (.int .i64 (fr : Int)) vc (.slice ll l.length cap) a) (hcm : Cm W g A n c k cnt last bs l (.slice ll l.length cap) w) (hk : k ≤ n) (hk2 : k ≤ 2048) (hc : cnt ≤ 512) (hl : l.length < 32) (hlast : (last.toList == [13]) = false) (hfr : fr < k) (v : List UInt8)
    (hr : runF k 1 cnt ((bs.drop fr).take (k - fr)) v l (bs.drop k) = R) : JP W g A n c bs R 2 (n - k) a w :=
  ⟨k, cnt, last, l, ll, cap, _, vc, hf, hcm, hk, hk2, hc, Nat.le_of_lt hl, rfl, hlast, fr, rfl, hfr, hl, v, hr⟩
theorem JP.at3 (fr co : Nat) (hf : PF A n c g (.int .i64 (fr : Int)) (.int .i64 (co : Int)) (.slice ll l.length cap) a) (hcm : Cm W g A n c k cnt last bs l (.slice ll l.length cap) w) (hk : k ≤ n) (hk2 : k ≤ 2048) (hc : cnt ≤ 512) (hl : l.length < 32) (hlast : (last.toList == [13]) = false) (h1 : fr < co) (h2 : co < k)
    (hr : runF k 2 cnt ((bs.drop fr).take (co - fr)) ((bs.drop (co + 1)).take (k - (co + 1))) l (bs.drop k) = R) : JP W g A n c bs R 3 (n - k) a w :=
  ⟨k, cnt, last, l, ll, cap, _, _, hf, hcm, hk, hk2, hc, Nat.le_of_lt hl, rfl, hlast, fr, co, rfl, rfl, h1, h2, hl, hr⟩
end
theorem vis_one (c : UInt8) : visF [c] = shownB c := by simp [visF]
theorem take_on {bs : List UInt8} {k f : Nat} {x : UInt8} (h : bs[k]? = some x) (hf : f ≤ k) : (bs.drop f).take (k + 1 - f) = (bs.drop f).take (k - f) ++ [x] := by
  rw [show k + 1 - f = k - f + 1 by omega, List.take_add_one, List.getElem?_drop, show f + (k - f) = k by omega, h]
  rfl
theorem take_none {bs : List UInt8} {k : Nat} : (bs.drop k).take (k - k) = [] := by rw [Nat.sub_self, List.take_zero]

set_option maxHeartbeats 16000000 in
set_option maxRecDepth 100000 in
theorem parse_any {P : Nat → Prop} (W : World) (A : Option Addr) (bs : List UInt8) (n c : Nat) (hn : bs.length = n) (hnc : n ≤ c) (hmax : n ≤ 140737488355328) (h : Src W P A bs) :
    Calls Tryz.prog 83 #[.slice A n c] W (HeadGot (parseH bs) W) := by
  obtain ⟨R, hR⟩ : ∃ R, parseH bs = R := ⟨_, rfl⟩
  obtain ⟨g, hg⟩ : ∃ g, W.heap.size = g := ⟨_, rfl⟩
  have HS0 := Lib.hid (h.mono (P' := fun b => b < g) (fun k hk _ => by omega))
  have HG := Lib.hid hg
  have HN := Lib.hid hn
  have HR := Lib.hid hR
  rw [hR]
  clear h hg hn hR
  go_enter Tryz.func83, Tryz.ntmps83
  go_wp2_with fail
  refine wp_scope_four (JP W g A n c bs R) ?hJ ?p1 ?p2 ?p3 ?p0 ?first
  case hJ =>
    rintro l m a w ⟨k, cnt, last, fl, ll, cap, vf, vc, _, _, _, _, _, _, _, hm⟩
    match l, hm with
    | 0, _ => omega
    | 1, _ => omega
    | 2, _ => omega
    | 3, _ => omega
  case p1 =>
    rintro m a w ⟨k, cnt, last, l, ll, cap, vf, vc, ⟨u, rfl⟩, hcm, hk, hk2, hc, hl, rfl, hlast, fr, rfl, hcase⟩
    refine ⟨_, rfl, ?_⟩
    have HCM := Lib.hid hcm
    have CN : Hid (Calls Tryz.prog 117 #[.pointer (some ⟨g, 0, none⟩)] w (NextP R g A n c k cnt bs true w)) := Lib.hid (by
      rcases hcase with ⟨_, nm, v, hr⟩ | ⟨co, _, _, _, _, hr⟩
      · exact next_at w g A n c k cnt 4 last bs nm v l R true hcm.rd HN.out hnc hk hk2 hcm.read hlast hc hr (fun x hx _ _ => by simp at hx)
      · exact next_at w g A n c k cnt 3 last bs _ _ l R true hcm.rd HN.out hnc hk hk2 hcm.read hlast hc hr (fun x hx _ _ => by simp at hx))
    have hfrk : fr < k := by
      rcases hcase with ⟨h1, _⟩ | ⟨co, _, h1, h2, _⟩ <;> omega
    have HCASE := Lib.hid hcase
    clear hcm hcase
    go_wp2_with fail
    refine CN.out.mono ?_
    rintro e w1 ⟨t1, ⟨r, hr0, rfl, hRr⟩ | ⟨x, cs, cnt', hkn, hk3, hx, hcs, rfl, hrd, hcnt, hc'⟩⟩
    · have hr : (((r : Int)) != 0) = true := by simp; omega
      have HB := Lib.hid (HCM.out.none t1)
      have HQ := Lib.hid hRr
      clear hRr hr0 t1 CN
      go_wp2_with fail
      rw [jumpTo_ret]
      go_ret3
      exact head_stop HQ.out rfl rfl HB.out
    · have c1 : w1.cell? ⟨g, 1, none⟩ = some (.int .i64 ((k : Int) + 1)) := hrd.cell 1
      have c2 : w1.cell? ⟨g, 2, none⟩ = some (.string cs) := hrd.cell 2
      have HD := Lib.hid (drop_cons5 hx)
      have HC1 := Lib.hid (HCM.out.turn t1 hrd)
      have E13 := Lib.hid (one_13 x cs hcs 13)
      have E10 := one_13 x cs hcs 10
      have HX := Lib.hid hx
      clear hx hrd t1 CN HCM hcnt hcs
      by_cases h10 : x = 10
      · have e10 : (cs.toList == [10]) = true := by rw [E10]; simpa using h10
        have HL := Lib.hid (show (cs.toList == [13]) = false by rw [E13.out, h10]; rfl)
        have H10 := Lib.hid h10
        clear E10 h10
        rcases HCASE.out with ⟨hke, nm, v, hr⟩ | ⟨co, rfl, h1, h2, hl32, hr⟩
        · have e2 : (((k : Int) + 1 - (fr : Int)) == 2) = true := beq_iff_eq.2 (by omega)
          have HQ := Lib.hid (show R = (l, k + 1, 0) by
            have h1 := hr
            rw [HD.out, runF_stop (show stepF k x 4 cnt nm v l = .stop l (k + 1) 0 by
              unfold stepF
              rw [if_neg (by omega), if_neg (by omega), if_neg (by omega), if_neg (by omega), if_neg (by omega), if_pos H10.out])] at h1
            exact h1.symm)
          clear HCASE hr hke
          go_wp2_with fail
          go_quiet (fail)
          go_wp2_with fail
          rw [jumpTo_ret]
          go_ret3
          obtain ⟨o, ho, hgb⟩ := HC1.out.own
          have hsz := HC1.out.size
          exact ⟨_, o, by rw [HQ.out]; rfl, by rw [HQ.out]; exact ho.kept ((Turn.refl (fun _ => False) _).drewN _) (fun _ _ h => h), fun b hb => by have := hgb b hb; omega, below_drewN HC1.out.below _⟩
        · have e2 : (((k : Int) + 1 - (fr : Int)) == 2) = false := beq_false_of_ne (by omega)
          obtain ⟨o, ho, hgb⟩ := HC1.out.own
          obtain ⟨A1, hs1, hsrc1⟩ := run_part A n c fr co (by omega) (by omega)
          obtain ⟨A2, hs2, hsrc2⟩ := run_part A n c (co + 1) (k - 1) (by omega) (by omega)
          have hs3 : ∀ X : World, (Instr.slice 22 (.slice A n c) (some (.int .i64 ((co : Int) + 1))) (some (.int .i64 ((k : Int) - 1))) none).run Tryz.prog X = .ok (.slice A2 (k - 1 - (co + 1)) (c - (co + 1))) X := fun X => by
            have := hs2 X
            rwa [show ((co + 1 : Nat) : Int) = (co : Int) + 1 by omega, show ((k - 1 : Nat) : Int) = (k : Int) - 1 by omega] at this
          obtain ⟨nm, hnm⟩ : ∃ nm, nm = (bs.drop fr).take (co - fr) := ⟨_, rfl⟩
          obtain ⟨v, hv⟩ : ∃ v, v = (bs.drop (co + 1)).take (k - 1 - (co + 1)) := ⟨_, rfl⟩
          have hn := HN.out
          have hl1 : nm.length = co - fr := by rw [hnm, List.length_take, List.length_drop]; omega
          have hl2 : v.length = k - 1 - (co + 1) := by rw [hv, List.length_take, List.length_drop]; omega
          rw [← hnm, ← hv] at hr
          have hrun2 : runF (k + 1) 0 0 nm v (l ++ [(nm, trimF v)]) (bs.drop (k + 1)) = R := by
            have h1 := hr
            rw [HD.out, runF_go (show stepF k x 3 cnt nm v l = .go 0 0 nm v (l ++ [(nm, trimF v)]) by
              unfold stepF
              rw [if_neg (by omega), if_neg (by omega), if_neg (by omega), if_neg (by omega), if_pos rfl, if_pos H10.out])] at h1
            exact h1
          have HR2 := Lib.hid hrun2
          have CF : Hid (∀ X : World, Below w1.heap.size w1 X → Calls Tryz.prog 118 #[.slice A1 (co - fr) (c - fr), .slice A2 (k - 1 - (co + 1)) (c - (co + 1))] X fun e w' => e = .returned (.agg #[.string ⟨nm.toArray⟩, .string ⟨(trimF v).toArray⟩]) ∧ Below w1.heap.size w1 w') := Lib.hid (fun X hB => (field_any X A1 A2 nm v (co - fr) (k - 1 - (co + 1)) (c - fr) (c - (co + 1)) hl1 hl2 (by omega)
            (by rw [hnm]; exact hsrc1 X _ bs hn (by omega) (HC1.out.stay hB).src) (by rw [hv]; exact hsrc2 X _ bs hn (by omega) (HC1.out.stay hB).src)).mono (fun _ _ hq => ⟨hq.1, hB.trans (hq.2.mono hB.size)⟩))
          have HP := Lib.hid (fun (X : World) (hB : Below w1.heap.size w1 X) => run_push_fld X _ o l (nm, trimF v) (ho.kept (Turn.of_below (S := fun _ => False) hB) (fun _ _ h => h)) (by omega))
          have HL2 := Lib.hid (show (l ++ [(nm, trimF v)]).length ≤ 32 by simp; omega)
          have HGB := Lib.hid hgb
          have B1 : Hid (Below w1.heap.size w1 w1.drew) := Lib.hid (below_drewN (Below.refl _ _) 1)
          have wr1 : IntKind.i64.wrap ((co : Int) + 1) = (co : Int) + 1 := by rw [IntKind.wrap_i64]; omega
          have wr2 : IntKind.i64.wrap ((k : Int) + 1 - 2) = (k : Int) - 1 := by rw [IntKind.wrap_i64]; omega
          have wr3 : IntKind.i64.wrap ((k : Int) - 1) = (k : Int) - 1 := by rw [IntKind.wrap_i64]; omega
          clear HCASE hr hnm hv hrun2 ho hgb hsrc1 hsrc2 hs2 hl1 hl2 hn
          generalize trimF v = tv at *
          go_wp2_with fail
          go_region_held3 (fun w' => w'.cell? ⟨g, 1, none⟩ = some (.int .i64 ((k : Int) + 1))) (first | exact c1 | exact y5 | exact y6 | exact y7 | go_keep)
            (first
              | (go_at_call 118
                 (with_reducible refine (CF.out w1.drew B1.out).mono ?_)
                 rintro e w5 ⟨rfl, b5⟩
                 have y5 : w5.cell? ⟨g, 1, none⟩ = some (.int .i64 ((k : Int) + 1)) := (HC1.out.stay b5).rd.cell 1
                 have y6 : (w5.alloc (.cells #[.string ⟨nm.toArray⟩, .string ⟨tv.toArray⟩] 58)).cell? ⟨g, 1, none⟩ = some (.int .i64 ((k : Int) + 1)) := ((HC1.out.stay b5).rd.alloc _).cell 1
                 obtain ⟨v', w', o', hrun, own', t', ho'⟩ := HP.out w5 b5
                 obtain ⟨ll', cap', hv', _⟩ := own'.src (fun _ => True) (fun _ _ => trivial)
                 rw [show (l ++ [(nm, tv)]).length = l.length + 1 by simp] at hv'
                 subst hv'
                 have HC9 := Lib.hid ((HC1.out.stay b5).push HGB.out t' own' ho')
                 have y7 : w'.cell? ⟨g, 1, none⟩ = some (.int .i64 ((k : Int) + 1)) := HC9.out.rd.cell 1
                 clear own' t' ho')
              | (refine step_append_by rfl (.tmp 69) (.tmp 82) 23 rfl _ _ (.slice ll' (l.length + 1) cap') w' rfl rfl hrun ?_))
          go_wp2_with fail
          go_step3
          exact ⟨_, by omega, JP.at0' (by simp) PF.mk HC9.out (by omega) (by omega) hc' HL2.out HL.out nm v HR2.out⟩
      · have e10 : (cs.toList == [10]) = false := by rw [E10]; simpa using h10
        have HQ := Lib.hid (show R = ([], 0, 20) by
          rcases HCASE.out with ⟨_, nm, v, hr⟩ | ⟨co, _, _, _, _, hr⟩
          · rw [HD.out, runF_stop (show stepF k x 4 cnt nm v l = .stop [] 0 20 by
              unfold stepF
              rw [if_neg (by omega), if_neg (by omega), if_neg (by omega), if_neg (by omega), if_neg (by omega), if_neg h10])] at hr
            exact hr.symm
          · rw [HD.out, runF_stop (show stepF k x 3 cnt _ _ l = .stop [] 0 20 by
              unfold stepF
              rw [if_neg (by omega), if_neg (by omega), if_neg (by omega), if_neg (by omega), if_pos rfl, if_neg h10])] at hr
            exact hr.symm)
        have B2 := Lib.hid HC1.out.below
        clear E10 h10 HCASE
        go_wp2_with fail
        rw [jumpTo_ret]
        go_ret3
        exact head_stop HQ.out rfl rfl B2.out
  case p2 =>
    rintro m a w ⟨k, cnt, last, l, ll, cap, vf, vc, ⟨u, rfl⟩, hcm, hk, hk2, hc, hl, rfl, hlast, fr, rfl, hfr, hl32, v, hrun⟩
    refine ⟨_, rfl, ?_⟩
    have HCM := Lib.hid hcm
    have CN := Lib.hid (next_at w g A n c k cnt 1 last bs _ v l R false hcm.rd HN.out hnc hk hk2 hcm.read hlast hc hrun (fun x hx hk3 hcc => by
      unfold stepF
      rw [if_neg (by omega), if_neg (by omega), if_pos rfl, if_neg (by simpa using hx), if_pos hcc]))
    have HRUN := Lib.hid hrun
    clear hcm hrun
    go_wp2_with fail
    refine CN.out.mono ?_
    rintro e w1 ⟨t1, ⟨r, hr0, rfl, hRr⟩ | ⟨x, cs, cnt', hkn, hk3, hx, hcs, rfl, hrd, hcnt, hc'⟩⟩
    · have hr : (((r : Int)) != 0) = true := by simp; omega
      have HB := Lib.hid (HCM.out.none t1)
      have HQ := Lib.hid hRr
      clear hRr hr0 t1 CN
      go_wp2_with fail
      rw [jumpTo_ret]
      go_ret3
      exact head_stop HQ.out rfl rfl HB.out
    · have c1 : w1.cell? ⟨g, 1, none⟩ = some (.int .i64 ((k : Int) + 1)) := hrd.cell 1
      have c2 : w1.cell? ⟨g, 2, none⟩ = some (.string cs) := hrd.cell 2
      have HD := Lib.hid (drop_cons5 hx)
      have HC1 := Lib.hid (HCM.out.turn t1 hrd)
      have E13 := Lib.hid (one_13 x cs hcs 13)
      have E58 := one_13 x cs hcs 58
      have HX := Lib.hid hx
      have HCNT := Lib.hid hcnt
      have HBL := Lib.hid (show bl cs = [x] by rw [hcs, bl_mk])
      clear hx hrd t1 CN HCM hcnt hcs
      by_cases h58 : x = 58
      · have e58 : (cs.toList == [58]) = true := by rw [E58]; simpa using h58
        have HCN : cnt' = cnt + 1 := by rw [HCNT.out, h58]; rfl
        have hrun2 : runF (k + 1) 2 cnt' ((bs.drop fr).take (k - fr)) [] l (bs.drop (k + 1)) = R := by
          have h1 := HRUN.out
          rw [HD.out, runF_go (show stepF k x 1 cnt ((bs.drop fr).take (k - fr)) v l = .go 2 (cnt + 1) ((bs.drop fr).take (k - fr)) [] l by
            unfold stepF
            rw [if_neg (by omega), if_neg (by omega), if_pos rfl, if_neg (by rw [h58]; decide), if_neg (by omega), if_pos h58])] at h1
          rw [HCN]
          exact h1
        have HR2 := Lib.hid hrun2
        have HL := Lib.hid (show (cs.toList == [13]) = false by rw [E13.out, h58]; rfl)
        clear E58 HRUN h58 hrun2 HCN
        go_wp2_with fail
        go_step3
        exact ⟨_, by omega, JP.at3 fr k PF.mk HC1.out (by omega) (by omega) hc' hl32 HL.out hfr (by omega) (by rw [take_none]; exact HR2.out)⟩
      · have e58 : (cs.toList == [58]) = false := by rw [E58]; simpa using h58
        clear E58
        have CT := Lib.hid (fun X : World => ty_token cs X)
        rw [HBL.out, tok_one] at CT
        by_cases htk : tokB x = true
        · rw [htk] at CT
          have h13 : x ≠ 13 := (tok_facts x htk).1
          have HCN : cnt' = cnt + 1 := by rw [HCNT.out, if_neg (by simpa using h13)]
          have hrun2 : runF (k + 1) 1 cnt' ((bs.drop fr).take (k + 1 - fr)) v l (bs.drop (k + 1)) = R := by
            have h1 := HRUN.out
            rw [HD.out, runF_go (show stepF k x 1 cnt ((bs.drop fr).take (k - fr)) v l = .go 1 (cnt + 1) ((bs.drop fr).take (k - fr) ++ [x]) v l by
              unfold stepF
              rw [if_neg (by omega), if_neg (by omega), if_pos rfl, if_neg h13, if_neg (by omega), if_neg h58, if_pos htk])] at h1
            rw [HCN, take_on HX.out (by omega)]
            exact h1
          have HR2 := Lib.hid hrun2
          have HL := Lib.hid (show (cs.toList == [13]) = false by rw [E13.out]; simpa using h13)
          clear HRUN htk h58 h13 hrun2 HCN
          go_wp2_with fail
          refine (CT.out _).mono ?_
          rintro e w2 ⟨rfl, b2⟩
          have HC2 := Lib.hid (HC1.out.stay b2)
          clear b2
          go_wp2_with fail
          go_step3
          exact ⟨_, by omega, JP.at2 fr PF.mk HC2.out (by omega) (by omega) hc' hl32 HL.out (by omega) v HR2.out⟩
        · rw [Bool.not_eq_true] at htk
          rw [htk] at CT
          have HQ := Lib.hid (show R = ([], 0, 20) by
            have h1 := HRUN.out
            rw [HD.out, runF_stop (show stepF k x 1 cnt ((bs.drop fr).take (k - fr)) v l = .stop [] 0 20 by
              unfold stepF
              rw [if_neg (by omega), if_neg (by omega), if_pos rfl]
              by_cases h13 : x = 13
              · rw [if_pos h13]
              · have : cnt' = cnt + 1 := by rw [HCNT.out, if_neg (by simpa using h13)]
                rw [if_neg h13, if_neg (by omega), if_neg h58, if_neg (by rw [htk]; decide)])] at h1
            exact h1.symm)
          clear HRUN htk h58
          go_wp2_with fail
          refine (CT.out _).mono ?_
          rintro e w2 ⟨rfl, b2⟩
          have B2 := Lib.hid (HC1.out.stay b2).below
          clear b2
          go_wp2_with fail
          rw [jumpTo_ret]
          go_ret3
          exact head_stop HQ.out rfl rfl B2.out
  case p3 =>
    rintro m a w ⟨k, cnt, last, l, ll, cap, vf, vc, ⟨u, rfl⟩, hcm, hk, hk2, hc, hl, rfl, hlast, fr, co, rfl, rfl, hfc, hck, hl32, hrun⟩
    refine ⟨_, rfl, ?_⟩
    have HCM := Lib.hid hcm
    have CN := Lib.hid (next_at w g A n c k cnt 2 last bs _ _ l R false hcm.rd HN.out hnc hk hk2 hcm.read hlast hc hrun (fun x hx hk3 hcc => by
      unfold stepF
      rw [if_neg (by omega), if_neg (by omega), if_neg (by omega), if_pos rfl, if_neg (by simpa using hx), if_pos hcc]))
    have HRUN := Lib.hid hrun
    clear hcm hrun
    go_wp2_with fail
    refine CN.out.mono ?_
    rintro e w1 ⟨t1, ⟨r, hr0, rfl, hRr⟩ | ⟨x, cs, cnt', hkn, hk3, hx, hcs, rfl, hrd, hcnt, hc'⟩⟩
    · have hr : (((r : Int)) != 0) = true := by simp; omega
      have HB := Lib.hid (HCM.out.none t1)
      have HQ := Lib.hid hRr
      clear hRr hr0 t1 CN
      go_wp2_with fail
      rw [jumpTo_ret]
      go_ret3
      exact head_stop HQ.out rfl rfl HB.out
    · have c1 : w1.cell? ⟨g, 1, none⟩ = some (.int .i64 ((k : Int) + 1)) := hrd.cell 1
      have c2 : w1.cell? ⟨g, 2, none⟩ = some (.string cs) := hrd.cell 2
      have HD := Lib.hid (drop_cons5 hx)
      have HC1 := Lib.hid (HCM.out.turn t1 hrd)
      have E13 := one_13 x cs hcs 13
      have HX := Lib.hid hx
      have HCNT := Lib.hid hcnt
      have HBL := Lib.hid (show bl cs = [x] by rw [hcs, bl_mk])
      clear hx hrd t1 CN HCM hcnt hcs
      by_cases h13 : x = 13
      · have e13 : (cs.toList == [13]) = true := by rw [E13]; simpa using h13
        have HCN : cnt' = cnt := by rw [HCNT.out, h13]; rfl
        have hrun2 : runF (k + 1) 3 cnt' ((bs.drop fr).take (co - fr)) ((bs.drop (co + 1)).take (k + 1 - 1 - (co + 1))) l (bs.drop (k + 1)) = R := by
          have h1 := HRUN.out
          rw [HD.out, runF_go (show stepF k x 2 cnt ((bs.drop fr).take (co - fr)) ((bs.drop (co + 1)).take (k - (co + 1))) l = .go 3 cnt ((bs.drop fr).take (co - fr)) ((bs.drop (co + 1)).take (k - (co + 1))) l by
            unfold stepF
            rw [if_neg (by omega), if_neg (by omega), if_neg (by omega), if_pos rfl, if_pos h13])] at h1
          rw [HCN, show k + 1 - 1 = k by omega]
          exact h1
        have HR2 := Lib.hid hrun2
        have HE := Lib.hid e13
        clear E13 HRUN h13 hrun2 HCN
        go_wp2_with fail
        go_step3
        exact ⟨_, by omega, JP.at1b fr co PF.mk HC1.out (by omega) (by omega) hc' hl32 HE.out hfc (by omega) HR2.out⟩
      · have e13 : (cs.toList == [13]) = false := by rw [E13]; simpa using h13
        have HCN : cnt' = cnt + 1 := by rw [HCNT.out, if_neg (by simpa using h13)]
        have HE := Lib.hid e13
        clear E13
        have CT := Lib.hid (fun X : World => ty_visible cs X)
        rw [HBL.out, vis_one] at CT
        by_cases htk : shownB x = true
        · rw [htk] at CT
          have hrun2 : runF (k + 1) 2 cnt' ((bs.drop fr).take (co - fr)) ((bs.drop (co + 1)).take (k + 1 - (co + 1))) l (bs.drop (k + 1)) = R := by
            have h1 := HRUN.out
            rw [HD.out, runF_go (show stepF k x 2 cnt ((bs.drop fr).take (co - fr)) ((bs.drop (co + 1)).take (k - (co + 1))) l = .go 2 (cnt + 1) ((bs.drop fr).take (co - fr)) ((bs.drop (co + 1)).take (k - (co + 1)) ++ [x]) l by
              unfold stepF
              rw [if_neg (by omega), if_neg (by omega), if_neg (by omega), if_pos rfl, if_neg h13, if_neg (by omega), if_pos htk])] at h1
            rw [HCN, take_on HX.out (by omega)]
            exact h1
          have HR2 := Lib.hid hrun2
          clear HRUN htk h13 hrun2 HCN
          go_wp2_with fail
          refine (CT.out _).mono ?_
          rintro e w2 ⟨rfl, b2⟩
          have HC2 := Lib.hid (HC1.out.stay b2)
          clear b2
          go_wp2_with fail
          go_step3
          exact ⟨_, by omega, JP.at3 fr co PF.mk HC2.out (by omega) (by omega) hc' hl32 HE.out hfc (by omega) HR2.out⟩
        · rw [Bool.not_eq_true] at htk
          rw [htk] at CT
          have HQ := Lib.hid (show R = ([], 0, 20) by
            have h1 := HRUN.out
            rw [HD.out, runF_stop (show stepF k x 2 cnt ((bs.drop fr).take (co - fr)) ((bs.drop (co + 1)).take (k - (co + 1))) l = .stop [] 0 20 by
              unfold stepF
              rw [if_neg (by omega), if_neg (by omega), if_neg (by omega), if_pos rfl, if_neg h13, if_neg (by omega), if_neg (by rw [htk]; decide)])] at h1
            exact h1.symm)
          clear HRUN htk h13 HCN
          go_wp2_with fail
          refine (CT.out _).mono ?_
          rintro e w2 ⟨rfl, b2⟩
          have B2 := Lib.hid (HC1.out.stay b2).below
          clear b2
          go_wp2_with fail
          rw [jumpTo_ret]
          go_ret3
          exact head_stop HQ.out rfl rfl B2.out
  case p0 =>
    intro hN
    rintro m a w ⟨k, cnt, last, l, ll, cap, vf, vc, ⟨u, rfl⟩, hcm0, hk, hk2, hc, hl, rfl, hlast, nm, v, hrun⟩
    refine ⟨_, rfl, ?_⟩
    have y1 : w.cell? ⟨g, 1, none⟩ = some (.int .i64 (k : Int)) := hcm0.rd.cell 1
    have y3 : w.cell? ⟨g, 3, none⟩ = some (.int .i64 (cnt : Int)) := hcm0.rd.cell 3
    have yf : w.frozen? ⟨g, 3, none⟩ = false := hcm0.rd.free 3
    have hcm : Cm W g A n c k 0 last bs l (.slice ll l.length cap) (w.setCell ⟨g, 3, none⟩ (.int .i64 0)) := hcm0.turn ((Turn.refl (· = g) w).setCell (p := ⟨g, 3, none⟩) (fun _ => rfl) _) (hcm0.rd.set 3 (.int .i64 0))
    have HCM := Lib.hid hcm
    have CN := Lib.hid (next_at _ g A n c k 0 0 last bs nm v l R false hcm.rd HN.out hnc hk hk2 hcm.read hlast (by omega) hrun (fun x hx hk3 hcc => by omega))
    have HRUN := Lib.hid hrun
    clear hcm hcm0 hrun
    go_wp2_with fail
    refine CN.out.mono ?_
    clear y1 y3 yf
    generalize w.setCell ⟨g, 3, none⟩ (.int .i64 0) = w0 at *
    rintro e w1 ⟨t1, ⟨r, hr0, rfl, hRr⟩ | ⟨x, cs, cnt', hkn, hk3, hx, hcs, rfl, hrd, hcnt, hc'⟩⟩
    · have hr : (((r : Int)) != 0) = true := by simp; omega
      have HB := Lib.hid (HCM.out.none t1)
      have HQ := Lib.hid hRr
      clear hRr hr0 t1 CN
      go_wp2_with fail
      rw [jumpTo_ret]
      go_ret3
      exact head_stop HQ.out rfl rfl HB.out
    · have c1 : w1.cell? ⟨g, 1, none⟩ = some (.int .i64 ((k : Int) + 1)) := hrd.cell 1
      have c2 : w1.cell? ⟨g, 2, none⟩ = some (.string cs) := hrd.cell 2
      have HD := Lib.hid (drop_cons5 hx)
      have HC1 := Lib.hid (HCM.out.turn t1 hrd)
      have E13 := one_13 x cs hcs 13
      have HX := Lib.hid hx
      have HCNT := Lib.hid hcnt
      have HBL := Lib.hid (show bl cs = [x] by rw [hcs, bl_mk])
      clear hx hrd t1 CN HCM hcnt hcs
      by_cases h13 : x = 13
      · have e13 : (cs.toList == [13]) = true := by rw [E13]; simpa using h13
        have HCN : cnt' = 0 := by rw [HCNT.out, h13]; rfl
        have hrun2 : runF (k + 1) 4 cnt' nm v l (bs.drop (k + 1)) = R := by
          have h1 := HRUN.out
          rw [HD.out, runF_go (show stepF k x 0 0 nm v l = .go 4 0 nm v l by
            unfold stepF
            rw [if_neg (by omega), if_pos rfl, if_pos h13])] at h1
          rw [HCN]
          exact h1
        have HR2 := Lib.hid hrun2
        have HE := Lib.hid e13
        clear E13 HRUN h13 hrun2 HCN
        go_wp2_with fail
        go_step3
        exact ⟨_, by omega, JP.at1a k PF.mk HC1.out (by omega) (by omega) hc' hl HE.out rfl nm v HR2.out⟩
      · have e13 : (cs.toList == [13]) = false := by rw [E13]; simpa using h13
        have HCN : cnt' = 1 := by rw [HCNT.out, if_neg (by simpa using h13)]
        have HE := Lib.hid e13
        clear E13
        by_cases hl32 : l.length = 32
        · have i32 : ((l.length : Int) == 32) = true := beq_iff_eq.2 (by omega)
          have HQ := Lib.hid (show R = ([], 0, 21) by
            have h1 := HRUN.out
            rw [HD.out, runF_stop (show stepF k x 0 0 nm v l = .stop [] 0 21 by
              unfold stepF
              rw [if_neg (by omega), if_pos rfl, if_neg h13, if_pos hl32])] at h1
            exact h1.symm)
          have B2 := Lib.hid HC1.out.below
          clear HRUN h13 hl32
          go_wp2_with fail
          rw [jumpTo_ret]
          go_ret3
          exact head_stop HQ.out rfl rfl B2.out
        · have i32 : ((l.length : Int) == 32) = false := beq_false_of_ne (by omega)
          have CT := Lib.hid (fun X : World => ty_token cs X)
          rw [HBL.out, tok_one] at CT
          by_cases htk : tokB x = true
          · rw [htk] at CT
            have hrun2 : runF (k + 1) 1 cnt' ((bs.drop k).take (k + 1 - k)) v l (bs.drop (k + 1)) = R := by
              have h1 := HRUN.out
              rw [HD.out, runF_go (show stepF k x 0 0 nm v l = .go 1 1 [x] v l by
                unfold stepF
                rw [if_neg (by omega), if_pos rfl, if_neg h13, if_neg hl32, if_neg (by omega), if_pos htk])] at h1
              rw [HCN, take_on HX.out (by omega), take_none]
              exact h1
            have HR2 := Lib.hid hrun2
            have HL := Lib.hid (show l.length < 32 by omega)
            clear HRUN htk h13 hrun2 HCN hl32
            go_wp2_with fail
            refine (CT.out _).mono ?_
            rintro e w2 ⟨rfl, b2⟩
            have HC2 := Lib.hid (HC1.out.stay b2)
            clear b2
            go_wp2_with fail
            go_step3
            rename_i hK
            refine hK _ _ ?_
            exact Pass.less hN rfl (by omega) (JP.at2 k PF.mk HC2.out (by omega) (by omega) hc' HL.out HE.out (by omega) v HR2.out)
          · rw [Bool.not_eq_true] at htk
            rw [htk] at CT
            have HQ := Lib.hid (show R = ([], 0, 20) by
              have h1 := HRUN.out
              rw [HD.out, runF_stop (show stepF k x 0 0 nm v l = .stop [] 0 20 by
                unfold stepF
                rw [if_neg (by omega), if_pos rfl, if_neg h13, if_neg hl32, if_neg (by omega), if_neg (by rw [htk]; decide)])] at h1
              exact h1.symm)
            clear HRUN htk h13 hl32 HCN
            go_wp2_with fail
            refine (CT.out _).mono ?_
            rintro e w2 ⟨rfl, b2⟩
            have B2 := Lib.hid (HC1.out.stay b2).below
            clear b2
            go_wp2_with fail
            rw [jumpTo_ret]
            go_ret3
            exact head_stop HQ.out rfl rfl B2.out
  case first =>
    intro h0
    go_wp2_with fail
    have hcm : Cm W g A n c 0 0 ⟨#[]⟩ bs [] (.slice none 0 0) (W.alloc (.cells #[.slice A n c, .int .i64 0, .string ⟨#[]⟩, .int .i64 0] 168)) := by
      have hg := HG.out
      have hb : Below W.heap.size W (W.alloc (.cells #[.slice A n c, .int .i64 0, .string ⟨#[]⟩, .int .i64 0] 168)) := (Below.refl _ _).alloc (Nat.le_refl _) _
      have hi := Is.made W 168 [.slice A n c, .int .i64 0, .string ⟨#[]⟩, .int .i64 0]
      rw [hg] at hi
      exact ⟨hi, ⟨none, OwnF.nil _, fun _ h => by cases h⟩, hb, hg, HS0.out.kept (Turn.of_below (S := fun _ => False) hb) (fun _ _ h => h)⟩
    simp only [HG.out]
    go_step3
    rename_i hK
    refine hK _ _ ?_
    exact Pass.begin h0 rfl (JP.at0 (l := []) PF.mk hcm (by omega) (by omega) (by omega) (by simp) (by simp) [] [] HR.out)
end Go.Proofs.YtemgfppclakdmaaGreatDoor

namespace Go.Proofs.YtemgfppclakdmaaGreatDoor
open Go.RowKit

/-- Two labels. -/
theorem wp_scope_two {P : Program} {a : Act} {w : World} {Q : Exit → Act → World → Prop} {c : Code} (J : Nat → Nat → Act → World → Prop) (hJ : ∀ l m a w, J l m a w → l < 2) (p1 : Pass P c Q J 1) (p0 : Pass P c Q J 0)
    (first : Pass P c Q J 0 → c.wp P (jumpTo (fun l a w => ∃ m, J l m a w) Q) a w) : (Code.scope c).wp P Q a w := by
  refine wp_scope_labels J (first p0) fun l m a w h => ?_
  have hl := hJ l m a w h
  match l, hl, h with
  | 0, _, h => exact p0.whole h
  | 1, _, h => exact p1.whole h
set_option maxHeartbeats 1000000 in
set_option maxRecDepth 100000 in
theorem clone8_any (w : World) (a : Addr) (bs : List UInt8) (n c : Nat) (hn : bs.length = n) (hmax : n ≤ 140737488355328) (h : Src w (fun _ => True) (some a) bs) :
    Calls Tryz.prog 84 #[.slice (some a) n c] w fun e w' => ∃ v o, e = .returned v ∧ Own w' v o bs ∧ (∀ b, o = some b → w.heap.size ≤ b) ∧ Below w.heap.size w w' := by
  have b0 : Below w.heap.size w (w.alloc (.cells #[] 5)) := (Below.refl _ _).alloc (Nat.le_refl _) _
  obtain ⟨v1, w1, o1, hrun, own1, t1, f1⟩ := run_append_src (w.alloc (.cells #[] 5)) _ _ [] bs (Own.built w) (some a) n c hn (h.kept (Turn.of_below (S := fun _ => False) b0) (fun _ _ h => h)) (by simp; omega)
  rw [List.nil_append] at own1
  have b1 : Below w.heap.size w w1 := below_own b0 (fun b hb => by injection hb with hb; omega) t1
  have R1 := Lib.hid hrun
  have B1 := Lib.hid b1
  have O1 := Lib.hid own1
  have F1 := Lib.hid (show ∀ b, o1 = some b → w.heap.size ≤ b from fun b hb => by
    rcases f1 with h | h
    · rw [h] at hb; injection hb with hb; omega
    · rw [h] at hb; injection hb with hb; have := b0.size; omega)
  have hnil : ∀ X : World, (binOp .eql 22 (.slice (some a) n c) (.slice none 0 0)).run Tryz.prog X = .ok (.bool false) X := fun X => Lib.run_eql_slice_nil X 22 5 (some a) n c 0 0 Tryz.underlying22
  clear b0 hrun own1 t1 f1 b1 h
  go_enter Tryz.func84, Tryz.ntmps84
  go_wp2_with (at_builtin; refine append_by rfl (.tmp 5) (.tmp 6) 22 rfl _ _ v1 w1 rfl rfl R1.out ?_)
  go_ret
  exact ⟨v1, o1, rfl, O1.out, F1.out, B1.out⟩

/-- A copy whose run is known, at a step of a region that draws its order. -/
theorem step_copy_by {P : Program} {w : World} {ops : Array Oper} {o : Oper} {a : Act} {K : Act → World → Prop} {Q : Exit → Act → World → Prop} {E : Prop} (hgd : o.guard = none) (s x : Operand) (t t' : TypeId)
    (ho : o.op = .call { callee := .builtin .copy, args := #[s, x], argTypes := #[t, t'] }) (v xv v' : Value) (w' : World) (hs : a.eval s = v) (hx : a.eval x = xv)
    (hrun : (Builtin.copy_ #[t, t'] o.type #[v, xv]).run P w = .ok v' w') (h : K (a.put o.dst v') w') : if Region.wanted o (yielded ops a.tmps) = true then Oper.wp P o a w K Q else E := by
  have hw : Region.wanted o (yielded ops a.tmps) = true := by simp [Region.wanted, hgd]
  rw [if_pos hw]
  unfold Oper.wp execOp
  simp only [ho, resolve, invoke, builtin, Sem.run_bind, Sem.run_pure, Result.andThen_ok, List.map_toArray, List.map_cons, List.map_nil, hs, hx, hrun]
  exact h
/-- A copy whose run is known, at its place in a walk. -/
theorem copy_by {P : Program} {w : World} {ops : Array Oper} {rest : List Oper} {o : Oper} {a : Act} {Q : Exit → Act → World → Prop} (hgd : o.guard = none) (s x : Operand) (t t' : TypeId)
    (ho : o.op = .call { callee := .builtin .copy, args := #[s, x], argTypes := #[t, t'] }) (v xv v' : Value) (w' : World) (hs : a.eval s = v) (hx : a.eval x = xv)
    (hrun : (Builtin.copy_ #[t, t'] o.type #[v, xv]).run P w = .ok v' w') (h : wpList P ops Q rest (a.put o.dst v') w') : wpList P ops Q (o :: rest) a w := by
  refine wpList_plain hgd fun K hK => ?_
  unfold Oper.wp execOp
  simp only [ho, resolve, invoke, builtin, Sem.run_bind, Sem.run_pure, Result.andThen_ok, List.map_toArray, List.map_cons, List.map_nil, hs, hx, hrun]
  exact hK _ _ h

/-- The array of the body. -/
def RoomAt (g : Nat) (body : List UInt8) (w : World) : Prop := ∃ rest : List UInt8, Is w g 171 (vals (body ++ rest)) ∧ (body ++ rest).length = 4096
theorem room_run (W : World) : (Instr.alloc 171 true (.tuple #[])).run Tryz.prog W = .ok (.pointer (some ⟨W.heap.size, 0, none⟩)) (W.alloc (.cells Tryz.zeroCells171 171)) := by
  unfold Instr.alloc
  rw [Sem.run_bind, Tryz.zeroValue171]
  rfl
theorem room_cells : Tryz.zeroCells171 = (vals (List.replicate 4096 0)).toArray := by kernel_rfl
theorem room_made (W : World) : RoomAt W.heap.size [] (W.alloc (.cells Tryz.zeroCells171 171)) := by
  refine ⟨List.replicate 4096 0, ?_, by rw [List.nil_append, List.length_replicate]⟩
  rw [room_cells, List.nil_append]
  exact Is.made W _ _
theorem RoomAt.kept {g : Nat} {body : List UInt8} {w w' : World} {S : Nat → Prop} (h : RoomAt g body w) (ht : Turn S w w') (hg : ¬ S g) : RoomAt g body w' := by
  obtain ⟨rest, h1, h2⟩ := h
  exact ⟨rest, h1.kept ht hg, h2⟩
theorem RoomAt.lt {g : Nat} {body : List UInt8} {w : World} (h : RoomAt g body w) : g < w.heap.size := by
  obtain ⟨rest, h1, h2⟩ := h
  exact h1.lt
theorem RoomAt.src {g : Nat} {body : List UInt8} {w : World} (h : RoomAt g body w) : Src w (fun _ => True) (some ⟨g, 0, none⟩) body := by
  obtain ⟨rest, h1, h2⟩ := h
  intro h0
  refine ⟨_, rfl, trivial, h1.lt, fun i v hv => ?_⟩
  rw [add_at, Nat.zero_add, h1.cell, vals_append]
  have hi := (List.getElem?_eq_some_iff.1 hv).1
  rw [List.getElem?_append_left hi]
  exact hv
theorem splice_room (body rest x : List UInt8) (k : Nat) (hk : body.length = k) : splice (vals (body ++ rest)) k (vals x) = vals ((body ++ x) ++ rest.drop x.length) := by
  subst hk
  unfold splice
  rw [vals_append, List.take_left' (vals_length body), vals_length, List.drop_append, vals_length]
  rw [List.drop_of_length_le (by rw [vals_length]; omega), List.nil_append, show body.length + x.length - body.length = x.length by omega, ← vals_drop, vals_append, vals_append, List.append_assoc]
/-- Bytes are copied behind those that the array has. -/
theorem room_copy (w : World) (g : Nat) (body x : List UInt8) (k sz dLen dCap sLen sCap : Nat) (A : Option Addr) (hr : RoomAt g body w) (hk : body.length = k) (hx : x.length = sz) (hfit : k + sz ≤ 4096) (hd : sz ≤ dLen) (hs : sLen = sz) (hsrc : Src w (fun b => b < g) A x) :
    ∃ w', (Builtin.copy_ #[22, 22] 3 #[.slice (some ⟨g, k, none⟩) dLen dCap, .slice A sLen sCap]).run Tryz.prog w = .ok (.int .i64 (sz : Int)) w' ∧ RoomAt g (body ++ x) w' ∧ Turn (· = g) w w' := by
  obtain ⟨rest, h1, h2⟩ := hr
  rw [List.length_append] at h2
  obtain ⟨w', hrun, his, ht, _⟩ := run_copy_in (P := Tryz.prog) w 22 22 3 5 Tryz.underlying22 byteSize (some ⟨g, k, none⟩) A dLen dCap sLen sCap sz g k (vals (body ++ rest)) 171 h1 (vals x) (by rw [vals_length]; exact hx)
    (by rw [hs]; exact (Nat.min_eq_left hd).symm) (fun h0 => by
      obtain ⟨ad, hA, _, _, hc⟩ := hsrc (by omega)
      exact ⟨rfl, ad, hA, hc⟩) (by rw [vals_length, List.length_append]; omega) (vals_one x)
  rw [splice_room body rest x k hk] at his
  exact ⟨w', hrun, ⟨rest.drop x.length, his, by simp; omega⟩, ht⟩

/-- The trailer, from a place on. -/
def trailG (bs body : List UInt8) (at1 : Nat) : Tk := if (parseH (bs.drop at1)).2.2 = 0 then (body, at1 + (parseH (bs.drop at1)).2.1, 0) else ([], 0, (parseH (bs.drop at1)).2.2)
/-- One round of the plain machine, by what the size line tells. -/
theorem line_take (bs body : List UInt8) (at0 f : Nat) (hb : body.length ≤ 4096) (L : Nat × Nat × Nat) (hL : lineO (bs.drop at0) (4096 - body.length) = L) :
    (L.2.2 ≠ 0 → takeG (f + 1) at0 body (bs.drop at0) = ([], 0, L.2.2)) ∧
    (L.2.2 = 0 → 0 < L.2.1 ∧ at0 + L.2.1 ≤ bs.length ∧ body.length + L.1 ≤ 4096 ∧ takeG (f + 1) at0 body (bs.drop at0) =
      if L.1 = 0 then trailG bs body (at0 + L.2.1)
      else if bs.length < at0 + L.2.1 + L.1 + 2 then ([], 0, 8)
      else if bs[at0 + L.2.1 + L.1]? ≠ some 13 ∨ bs[at0 + L.2.1 + L.1 + 1]? ≠ some 10 then ([], 0, 20)
      else takeG f (at0 + L.2.1 + L.1 + 2) (body ++ (bs.drop (at0 + L.2.1)).take L.1) (bs.drop (at0 + L.2.1 + L.1 + 2))) := by
  cases hk : lfF 64 (bs.drop at0) with
  | none =>
    rw [lineO_none hk] at hL
    rw [takeG_none hk, ← hL]
    refine ⟨fun _ => rfl, fun h => ?_⟩
    simp only at h
    split at h <;> cases h
  | some k =>
    obtain ⟨_, hkl, _, _⟩ := lf_some 64 _ k hk
    rw [List.length_drop] at hkl
    obtain ⟨nn, e, hs⟩ : ∃ nn e, sizeF ((bs.drop at0).take k) = (nn, e) := ⟨_, _, rfl⟩
    rw [lineO_some hk hs] at hL
    have hr := take_round bs body at0 (at0 + k) f nn e (by omega) (by omega) (by rw [Nat.add_sub_cancel_left]; exact hk) (by rw [Nat.add_sub_cancel_left]; exact hs)
    rw [hr]
    by_cases he : e = 0
    · rw [if_neg (by omega)] at hL
      rw [if_neg (by omega)]
      by_cases hb2 : 4096 < body.length + nn
      · rw [if_pos (by omega)] at hL
        rw [if_pos hb2, ← hL]
        exact ⟨fun _ => rfl, fun h => by cases h⟩
      · rw [if_neg (by omega)] at hL
        rw [if_neg hb2, ← hL]
        refine ⟨fun h => absurd rfl h, fun _ => ⟨by simp, by simp only; omega, by simp only; omega, ?_⟩⟩
        simp only [← Nat.add_assoc]
        rfl
    · rw [if_pos he] at hL
      rw [if_pos he, ← hL]
      exact ⟨fun _ => rfl, fun h => absurd h he⟩
theorem two_at (bs : List UInt8) (k : Nat) (x y : UInt8) (hx : bs[k]? = some x) (hy : bs[k + 1]? = some y) : (bs.drop k).take 2 = [x, y] := by
  obtain ⟨h1, h2⟩ := List.getElem?_eq_some_iff.1 hx
  obtain ⟨h3, h4⟩ := List.getElem?_eq_some_iff.1 hy
  rw [List.drop_eq_getElem_cons h1, List.drop_eq_getElem_cons h3, h2, h4]
  rfl

/-- The frame, wherever the run stands. -/
def PF8 (A : Option Addr) (n c g : Nat) (vh va : Value) (a : Act) : Prop := ∃ u : Nat → Value, a = { tmps := #[.slice A n c, u 1, u 2, u 3, u 4, .pointer (some ⟨g, 0, none⟩), vh, va, u 8, u 9, u 10, u 11, u 12, u 13, u 14, u 15, u 16, u 17, u 18, u 19, u 20, u 21, u 22, u 23, u 24, u 25, u 26, u 27, u 28, u 29, u 30, u 31, u 32, u 33, u 34, u 35, u 36, u 37, u 38, u 39, u 40, u 41, u 42, u 43, u 44, u 45, u 46, u 47, u 48, u 49, u 50, u 51, u 52, u 53, u 54, u 55, u 56, u 57, u 58, u 59, u 60, u 61, u 62, u 63, u 64, u 65, u 66, u 67, u 68, u 69, u 70, u 71, u 72, u 73, u 74, u 75, u 76, u 77, u 78], defers := [] }
theorem PF8.mk {A : Option Addr} {n c g : Nat} {vh va : Value} {x1 x2 x3 x4 x8 x9 x10 x11 x12 x13 x14 x15 x16 x17 x18 x19 x20 x21 x22 x23 x24 x25 x26 x27 x28 x29 x30 x31 x32 x33 x34 x35 x36 x37 x38 x39 x40 x41 x42 x43 x44 x45 x46 x47 x48 x49 x50 x51 x52 x53 x54 x55 x56 x57 x58 x59 x60 x61 x62 x63 x64 x65 x66 x67 x68 x69 x70 x71 x72 x73 x74 x75 x76 x77 x78 : Value} : PF8 A n c g vh va { tmps := #[.slice A n c, x1, x2, x3, x4, .pointer (some ⟨g, 0, none⟩), vh, va, x8, x9, x10, x11, x12, x13, x14, x15, x16, x17, x18, x19, x20, x21, x22, x23, x24, x25, x26, x27, x28, x29, x30, x31, x32, x33, x34, x35, x36, x37, x38, x39, x40, x41, x42, x43, x44, x45, x46, x47, x48, x49, x50, x51, x52, x53, x54, x55, x56, x57, x58, x59, x60, x61, x62, x63, x64, x65, x66, x67, x68, x69, x70, x71, x72, x73, x74, x75, x76, x77, x78], defers := [] } := ⟨fun i => ([undef, x1, x2, x3, x4, undef, undef, undef, x8, x9, x10, x11, x12, x13, x14, x15, x16, x17, x18, x19, x20, x21, x22, x23, x24, x25, x26, x27, x28, x29, x30, x31, x32, x33, x34, x35, x36, x37, x38, x39, x40, x41, x42, x43, x44, x45, x46, x47, x48, x49, x50, x51, x52, x53, x54, x55, x56, x57, x58, x59, x60, x61, x62, x63, x64, x65, x66, x67, x68, x69, x70, x71, x72, x73, x74, x75, x76, x77, x78] : List Value).getD i undef, rfl⟩
/-- What holds wherever the run stands. -/
structure Cm8 (W : World) (g : Nat) (A : Option Addr) (bs body : List UInt8) (w : World) : Prop where
  room : RoomAt g body w
  below : Below W.heap.size W w
  size : W.heap.size = g
  src : Src w (fun b => b < g) A bs
theorem Cm8.stay {W : World} {g : Nat} {A : Option Addr} {bs body : List UInt8} {w w' : World} (h : Cm8 W g A bs body w) (hb : Below w.heap.size w w') : Cm8 W g A bs body w' := by
  have ht : Turn (fun _ => False) w w' := Turn.of_below hb
  exact ⟨h.room.kept ht (fun h => h), h.below.trans (hb.mono h.below.size), h.size, h.src.kept ht (fun _ _ h => h)⟩
theorem Cm8.turn {W : World} {g : Nat} {A : Option Addr} {bs body body' : List UInt8} {w w' : World} (h : Cm8 W g A bs body w) (ht : Turn (· = g) w w') (hr : RoomAt g body' w') : Cm8 W g A bs body' w' := by
  have hs := h.size
  exact ⟨hr, h.below.trans ⟨ht.os, ht.tape, ht.output, ht.size, fun b hb => ht.block b (by have := h.below.size; omega) (by omega)⟩, h.size, h.src.kept ht (fun b hb e => by omega)⟩
/-- What holds at a jump to a label. -/
def JP8 (W : World) (g : Nat) (A : Option Addr) (n c : Nat) (bs : List UInt8) (R : Tk) (lb m : Nat) (a : Act) (w : World) : Prop :=
  ∃ (at0 : Nat) (body : List UInt8), PF8 A n c g (.int .i64 (body.length : Int)) (.int .i64 (at0 : Int)) a ∧ Cm8 W g A bs body w ∧ at0 ≤ n ∧ body.length ≤ 4096 ∧
    match lb with
    | 0 => m = n - at0 + 1 ∧ ∃ f, n - at0 < f ∧ takeG f at0 body (bs.drop at0) = R
    | 1 => m = 0 ∧ trailG bs body at0 = R
    | _ => False
theorem JP8.at0 {W w : World} {g : Nat} {A : Option Addr} {n c : Nat} {bs body : List UInt8} {R : Tk} {a : Act} {vh : Value} {at0 f : Nat} (hv : vh = .int .i64 (body.length : Int)) {va : Value} (hva : va = .int .i64 (at0 : Int)) (hf : PF8 A n c g vh va a) (hc : Cm8 W g A bs body w) (h1 : at0 ≤ n) (h2 : body.length ≤ 4096) (h3 : n - at0 < f) (h4 : takeG f at0 body (bs.drop at0) = R) : JP8 W g A n c bs R 0 (n - at0 + 1) a w :=
  ⟨at0, body, by rw [← hv, ← hva]; exact hf, hc, h1, h2, rfl, f, h3, h4⟩
theorem JP8.at1 {W w : World} {g : Nat} {A : Option Addr} {n c : Nat} {bs body : List UInt8} {R : Tk} {a : Act} {at0 : Nat} {va : Value} (hva : va = .int .i64 (at0 : Int)) (hf : PF8 A n c g (.int .i64 (body.length : Int)) va a) (hc : Cm8 W g A bs body w) (h1 : at0 ≤ n) (h2 : body.length ≤ 4096) (h4 : trailG bs body at0 = R) : JP8 W g A n c bs R 1 0 a w :=
  ⟨at0, body, by rw [← hva]; exact hf, hc, h1, h2, rfl, h4⟩
set_option maxHeartbeats 16000000 in
set_option maxRecDepth 100000 in
theorem take_any (W : World) (A : Option Addr) (bs : List UInt8) (n c : Nat) (hn : bs.length = n) (hnc : n ≤ c) (hmax : n ≤ 140737488351232) (h : Src W (fun _ => True) A bs) :
    Calls Tryz.prog 85 #[.slice A n c] W (TakeGot (takeF bs) W) := by
  obtain ⟨R, hR⟩ : ∃ R, takeF bs = R := ⟨_, rfl⟩
  obtain ⟨g, hg⟩ : ∃ g, W.heap.size = g := ⟨_, rfl⟩
  have HS0 := Lib.hid (h.mono (P' := fun b => b < g) (fun k hk _ => by omega))
  have HG := Lib.hid hg
  have HN := Lib.hid hn
  have HR := Lib.hid hR
  rw [hR]
  clear h hg hn hR
  go_enter Tryz.func85, Tryz.ntmps85
  go_wp2_with fail
  refine wp_scope_two (JP8 W g A n c bs R) ?hJ ?p1 ?p0 ?first
  case hJ =>
    rintro l m a w ⟨at0, body, _, _, _, _, hm⟩
    match l, hm with
    | 0, _ => omega
    | 1, _ => omega
  case p1 =>
    rintro m a w ⟨at0, body, ⟨u, rfl⟩, hcm, hat, hbl, rfl, htr⟩
    refine ⟨_, rfl, ?_⟩
    obtain ⟨A1, hs1, hsrc1⟩ := run_tail8 A n c at0 hat hnc
    have HTR := Lib.hid htr
    have CP := Lib.hid (parse_any w A1 (bs.drop at0) (n - at0) (c - at0) (by rw [List.length_drop, HN.out]) (by omega) (by omega) (hsrc1 w _ bs HN.out hcm.src))
    have HPU := run_used (bs.drop at0)
    rw [List.length_drop, HN.out] at HPU
    have hsl : ∀ X : World, (Instr.sliceAt 171 (.pointer (some ⟨g, 0, none⟩)) none (some (.int .i64 (body.length : Int))) none).run Tryz.prog X = .ok (.slice (some ⟨g, 0, none⟩) body.length 4096) X := fun X => by
      have hal : Tryz.prog.arrayLen 171 = 4096 := by kernel_rfl
      rw [run_sliceAt_array_h X 171 ⟨g, 0, none⟩ (by kernel_rfl) .i64 (body.length : Int) (by omega) (by rw [hal]; omega)]
      go_simp
    unfold HeadGot at CP
    unfold trailG at HTR
    generalize parseH (bs.drop at0) = q at *
    obtain ⟨ql, qu, qe⟩ := q
    simp only at CP HTR HPU
    have HCM := Lib.hid hcm
    clear hcm htr hsrc1
    go_wp2_with fail
    refine CP.out.mono ?_
    rintro e w1 ⟨v1, o1, rfl, own1, f1, b1⟩
    have HC1 := Lib.hid (HCM.out.stay b1)
    clear own1 f1 b1
    by_cases hq : qe = 0
    · have e0 : ((qe : Int) != 0) = false := by subst hq; rfl
      have HF := Lib.hid (HTR.out.symm.trans (if_pos hq))
      have wr : IntKind.i64.wrap ((at0 : Int) + (qu : Int)) = (at0 : Int) + (qu : Int) := by rw [IntKind.wrap_i64]; omega
      have CC := Lib.hid (clone8_any w1 ⟨g, 0, none⟩ body body.length 4096 rfl (by omega) HC1.out.room.src)
      clear hq HTR
      go_wp2_with fail
      refine CC.out.mono ?_
      rintro e w2 ⟨v2, o2, rfl, own2, f2, b2⟩
      have O2 := Lib.hid own2
      have F2 := Lib.hid f2
      have B2 := Lib.hid (HC1.out.below.trans (b2.mono HC1.out.below.size))
      have Z1 := Lib.hid HC1.out.below.size
      clear own2 f2 b2
      go_wp2_with fail
      rw [jumpTo_ret]
      go_ret3
      refine ⟨v2, o2, take_tell HF.out (by omega), by rw [HF.out]; exact O2.out, fun b hb => ?_, B2.out⟩
      have := F2.out b hb
      have := Z1.out
      omega
    · have e0 : ((qe : Int) != 0) = true := by simp; omega
      have HF := Lib.hid (HTR.out.symm.trans (if_neg hq))
      have B1 := Lib.hid HC1.out.below
      clear hq HTR
      go_wp2_with fail
      rw [jumpTo_ret]
      go_ret3
      exact take_stop HF.out rfl B1.out
  case p0 =>
    rintro m a w ⟨at0, body, ⟨u, rfl⟩, hcm, hat, hbl, rfl, f, hf, hrun⟩
    refine ⟨_, rfl, ?_⟩
    obtain ⟨f, rfl⟩ : ∃ f', f = f' + 1 := ⟨f - 1, by omega⟩
    obtain ⟨A1, hs1, hsrc1⟩ := run_tail8 A n c at0 hat hnc
    have CZ0 := sizeOf_any w A1 (bs.drop at0) (n - at0) (c - at0) (4096 - body.length) (by rw [List.length_drop, HN.out]) (by omega) (by omega) (by omega) (hsrc1 w _ bs HN.out hcm.src)
    rw [show ((4096 - body.length : Nat) : Int) = 4096 - (body.length : Int) by omega] at CZ0
    obtain ⟨L, hL⟩ : ∃ L, lineO (bs.drop at0) (4096 - body.length) = L := ⟨_, rfl⟩
    obtain ⟨hlt1, hlt2⟩ := line_take bs body at0 f hbl L hL
    rw [hL] at CZ0
    rw [hrun, HN.out] at hlt2
    rw [hrun] at hlt1
    obtain ⟨sz, us, er⟩ := L
    unfold SizeGot at CZ0
    simp only at CZ0 hlt1 hlt2
    have CZ := Lib.hid CZ0
    have HL1 := Lib.hid hlt1
    have HL2 := Lib.hid hlt2
    have HCM := Lib.hid hcm
    have wr0 : IntKind.i64.wrap (4096 - (body.length : Int)) = 4096 - (body.length : Int) := by rw [IntKind.wrap_i64]; omega
    clear hcm hrun hL hlt1 hlt2 CZ0 hsrc1
    go_wp2_with fail
    refine CZ.out.mono ?_
    rintro e w1 ⟨rfl, b1⟩
    have HC1 := Lib.hid (HCM.out.stay b1)
    clear b1
    by_cases he : er = 0
    · obtain ⟨hu0, hun, hbs, hR2⟩ := HL2.out he
      have e0 : ((er : Int) != 0) = false := by subst he; rfl
      obtain ⟨at1, hat1⟩ : ∃ k, at0 + us = k := ⟨_, rfl⟩
      rw [hat1] at hun hR2
      have wr1 : IntKind.i64.wrap ((at0 : Int) + (us : Int)) = (at1 : Int) := by rw [IntKind.wrap_i64]; omega
      have HR2 := Lib.hid hR2
      have hlt : at0 < at1 := by omega
      clear he hR2 HL1 HL2 CZ HCM hs1 wr0 hu0
      by_cases hz : sz = 0
      · have ez : ((sz : Int) == 0) = true := by subst hz; rfl
        have HF := Lib.hid (HR2.out.trans (if_pos hz)).symm
        clear hz
        go_wp2_with fail
        go_step3
        exact ⟨0, by omega, JP8.at1 rfl PF8.mk HC1.out hun hbl HF.out⟩
      · have ez : ((sz : Int) == 0) = false := by simp; omega
        have HR3 := Lib.hid (HR2.out.trans (if_neg hz))
        have wr2 : IntKind.i64.wrap ((n : Int) - (at1 : Int)) = (n : Int) - (at1 : Int) := by rw [IntKind.wrap_i64]; omega
        have wr3 : IntKind.i64.wrap ((sz : Int) + 2) = (sz : Int) + 2 := by rw [IntKind.wrap_i64]; omega
        clear HR2
        by_cases hsh : n < at1 + sz + 2
        · have es : decide ((n : Int) - (at1 : Int) < (sz : Int) + 2) = true := decide_eq_true (by omega)
          have HF := Lib.hid (HR3.out.trans (if_pos hsh))
          have B1 := Lib.hid HC1.out.below
          clear hsh hz
          go_wp2_with fail
          rw [jumpTo_ret]
          go_ret3
          exact take_stop HF.out rfl B1.out
        · have es : decide ((n : Int) - (at1 : Int) < (sz : Int) + 2) = false := decide_eq_false (by omega)
          have HR4 := Lib.hid (HR3.out.trans (if_neg hsh))
          obtain ⟨x1, hx1⟩ : ∃ x, bs[at1 + sz]? = some x := ⟨bs[at1 + sz]'(by rw [HN.out]; omega), List.getElem?_eq_getElem _⟩
          obtain ⟨x2, hx2⟩ : ∃ x, bs[at1 + sz + 1]? = some x := ⟨bs[at1 + sz + 1]'(by rw [HN.out]; omega), List.getElem?_eq_getElem _⟩
          obtain ⟨A2, hs2, hsrc2⟩ := run_part A n c (at1 + sz) (at1 + sz + 2) (by omega) (by omega)
          have S2 := hsrc2 w1 _ bs HN.out (by omega) HC1.out.src
          rw [Nat.add_sub_cancel_left, two_at bs _ x1 x2 hx1 hx2] at S2
          have hs2' : ∀ X : World, (Instr.slice 22 (.slice A n c) (some (.int .i64 ((at1 : Int) + (sz : Int)))) (some (.int .i64 ((at1 : Int) + (sz : Int) + 2))) none).run Tryz.prog X = .ok (.slice A2 2 (c - (at1 + sz))) X := fun X => by
            have := hs2 X
            rwa [Nat.add_sub_cancel_left, show ((at1 + sz : Nat) : Int) = (at1 : Int) + (sz : Int) by omega, show ((at1 + sz + 2 : Nat) : Int) = (at1 : Int) + (sz : Int) + 2 by omega] at this
          obtain ⟨cs, hcs⟩ : ∃ cs : ByteArray, cs = ⟨[x1, x2].toArray⟩ := ⟨_, rfl⟩
          have T2 := run_text w1 A2 [x1, x2] 2 (c - (at1 + sz)) rfl S2
          rw [← hcs] at T2
          have hE : (cs.toList == [13, 10]) = decide (x1 = 13 ∧ x2 = 10) := by
            rw [hcs, Lib.toList_data, Bool.eq_iff_iff]
            simp
          have wr4 : IntKind.i64.wrap ((at1 : Int) + (sz : Int)) = (at1 : Int) + (sz : Int) := by rw [IntKind.wrap_i64]; omega
          have wr5 : IntKind.i64.wrap ((at1 : Int) + (sz : Int) + 2) = (at1 : Int) + (sz : Int) + 2 := by rw [IntKind.wrap_i64]; omega
          clear hs2 hsrc2 S2 hcs HR3
          by_cases hbad : bs[at1 + sz]? ≠ some 13 ∨ bs[at1 + sz + 1]? ≠ some 10
          · have HF := Lib.hid (HR4.out.trans (if_pos hbad))
            have eE : (cs.toList == [13, 10]) = false := by
              rw [hE]
              rw [hx1, hx2] at hbad
              simp only [ne_eq, Option.some.injEq] at hbad
              rw [decide_eq_false_iff_not]
              rintro ⟨h1, h2⟩
              rcases hbad with h | h
              · exact h h1
              · exact h h2
            have B1 := Lib.hid HC1.out.below
            clear hbad hE hx1 hx2 hsh hz HR4
            go_wp2_with fail
            rw [jumpTo_ret]
            go_ret3
            exact take_stop HF.out rfl B1.out
          · have HF := Lib.hid (HR4.out.trans (if_neg hbad)).symm
            have eE : (cs.toList == [13, 10]) = true := by
              rw [hE]
              rw [hx1, hx2] at hbad
              simp only [ne_eq, Option.some.injEq, not_or, Decidable.not_not] at hbad
              exact decide_eq_true hbad
            clear hbad hE hx1 hx2 HR4
            have hsl : ∀ X : World, (Instr.sliceAt 171 (.pointer (some ⟨g, 0, none⟩)) (some (.int .i64 (body.length : Int))) none none).run Tryz.prog X = .ok (.slice (some ⟨g, body.length, none⟩) (4096 - body.length) (4096 - body.length)) X := fun X => by
              have hal : Tryz.prog.arrayLen 171 = 4096 := by kernel_rfl
              rw [run_sliceAt_array_l X 171 ⟨g, 0, none⟩ (by kernel_rfl) .i64 (body.length : Int) (by omega) (by rw [hal]; omega)]
              go_simp
              omega
            obtain ⟨A3, hs3, hsrc3⟩ := run_part A n c at1 (at1 + sz) (by omega) (by omega)
            have hs3' : ∀ X : World, (Instr.slice 22 (.slice A n c) (some (.int .i64 (at1 : Int))) (some (.int .i64 ((at1 : Int) + (sz : Int)))) none).run Tryz.prog X = .ok (.slice A3 sz (c - at1)) X := fun X => by
              have := hs3 X
              rwa [Nat.add_sub_cancel_left, show ((at1 + sz : Nat) : Int) = (at1 : Int) + (sz : Int) by omega] at this
            have hxl : ((bs.drop at1).take sz).length = sz := by rw [List.length_take, List.length_drop, HN.out]; omega
            have HCP := Lib.hid (fun (X : World) (hB : Below w1.heap.size w1 X) => room_copy X g body ((bs.drop at1).take sz) body.length sz (4096 - body.length) (4096 - body.length) sz (c - at1) A3 (HC1.out.stay hB).room rfl hxl (by omega) (by omega) rfl (by
              have := hsrc3 X _ bs HN.out (by omega) (HC1.out.stay hB).src
              rwa [Nat.add_sub_cancel_left] at this))
            have BD : Hid (Below w1.heap.size w1 w1.drew) := Lib.hid (below_drewN (Below.refl _ _) 1)
            have wr6 : IntKind.i64.wrap ((body.length : Int) + (sz : Int)) = (body.length : Int) + (sz : Int) := by rw [IntKind.wrap_i64]; omega
            have wr7 : IntKind.i64.wrap ((at1 : Int) + ((sz : Int) + 2)) = (at1 : Int) + ((sz : Int) + 2) := by rw [IntKind.wrap_i64]; omega
            have HXL := Lib.hid hxl
            have HLE := Lib.hid (show at1 + sz + 2 ≤ n by omega)
            clear hs3 hsrc3 hz hsh hxl
            generalize (bs.drop at1).take sz = x at *
            go_wp2_with fail
            obtain ⟨w9, hrun9, hr9, t9⟩ := HCP.out w1.drew BD.out
            have HC9 := Lib.hid ((HC1.out.stay BD.out).turn t9 hr9)
            have HRUN9 := Lib.hid hrun9
            clear hr9 t9 hrun9 HCP hs2' T2 wr2 wr3 wr5 es ez eE hun hat1 wr1 e0
            go_region_held3 (fun _ => True) (trivial)
              (first
                | (refine step_copy_by rfl (.tmp 49) (.tmp 55) 22 22 rfl _ _ _ w9 rfl rfl HRUN9.out ?_))
            go_wp2_with fail
            go_step3
            have hle := HLE.out
            have hxl := HXL.out
            exact ⟨_, by omega, JP8.at0 (at0 := at1 + sz + 2) (f := f) (by rw [List.length_append, hxl]; rfl) (by rw [show ((at1 + sz + 2 : Nat) : Int) = (at1 : Int) + ((sz : Int) + 2) by omega]) PF8.mk HC9.out hle (by rw [List.length_append]; omega) (by omega) HF.out⟩
    · have e0 : ((er : Int) != 0) = true := by simp; omega
      have HF := Lib.hid (HL1.out he)
      have B1 := Lib.hid HC1.out.below
      clear he HL1 HL2
      go_wp2_with fail
      rw [jumpTo_ret]
      go_ret3
      exact take_stop HF.out rfl B1.out
  case first =>
    intro h0
    have hcm : Cm8 W g A bs [] (W.alloc (.cells Tryz.zeroCells171 171)) := by
      have hg := HG.out
      have hb : Below W.heap.size W (W.alloc (.cells Tryz.zeroCells171 171)) := (Below.refl _ _).alloc (Nat.le_refl _) _
      have hr := room_made W
      rw [hg] at hr
      exact ⟨hr, hb, hg, HS0.out.kept (Turn.of_below (S := fun _ => False) hb) (fun _ _ h => h)⟩
    have HCM := Lib.hid hcm
    clear hcm
    go_wp2_with fail
    simp only [HG.out]
    go_step3
    rename_i hK
    refine hK _ _ ?_
    exact Pass.begin h0 rfl (JP8.at0 (body := []) (at0 := 0) (f := n + 1) rfl rfl PF8.mk HCM.out (Nat.zero_le _) (by simp) (by omega) (by rw [← HR.out, ← HN.out]; rfl))
end Go.Proofs.YtemgfppclakdmaaGreatDoor
