/-
  The law AclRules, walked.
  Conditions: rules whose Methods lie in memory, which are not many and not long; Go's table of powers of ten is as its text lays it.
-/
import Derived.Test.YtcmnnidjamdmeaaDoorAH
import Derived.Test.YtcmnnidjamdmeaaDoorAI
import Derived.Deep.RegionHeld3
namespace Go.Proofs.YtcmnnidjamdmeaaDoor.Acl
open Go.RowKit

theorem below_drewN9 {B : Nat} {a w : World} (h : Below B a w) : Below B a w.drew := ⟨h.os, h.tape, h.output, h.size, h.block⟩
set_option maxHeartbeats 8000000 in
set_option maxRecDepth 100000 in
theorem rules_law (w : World) (A : Option Addr) (L : List RuE) (n c : Nat) (hn : L.length = n) (hmax : n ≤ 4000000) (hs : SrcU w (fun _ => True) A L) (hok : ∀ r ∈ L, r.Ok w) (hz : ∀ r ∈ L, r.Small) (r : RuE) (hr : r.Ok w) (hrz : r.Small) (h : ByteArray) (p : Int) (m : ByteArray) (hz2 : h.size ≤ 4000000) (hp : PowTab w) :
    Calls Tryd.prog 3 #[.slice A n c, .agg #[.bool r.al, .string r.h, .int .i64 r.lo, .int .i64 r.hi, .slice r.A r.n r.c], .string h, .int .i64 p, .string m] w fun e w' => e = .returned (.bool true) ∧ Below w.heap.size w w' := by
  have C1 := Lib.hid (fun (W : World) (hB : Below w.heap.size w W) => may_any r W (hr.below hB) (hp.below hB))
  have C2 := Lib.hid (fun (W : World) (hB : Below w.heap.size w W) => rmay_any r W (hr.below hB) hrz)
  have C3 := Lib.hid (fun (W : World) (hB : Below w.heap.size w W) => all_any W A L n c hn (by omega) (hs.below hB) (fun r hr => (hok r hr).below hB) (hp.below hB))
  have C4 := Lib.hid (fun (W : World) (hB : Below w.heap.size w W) => rall_any W A L n c hn hmax (hs.below hB) (fun r hr => (hok r hr).below hB) hz)
  have C5 := Lib.hid (fun (W : World) (hB : Below w.heap.size w W) => matches_any r h p m W (hr.below hB) (by omega))
  have C6 := Lib.hid (fun (W : World) (hB : Below w.heap.size w W) => rmatches_any r h p m W (hr.below hB) hrz.h hz2 hrz.n)
  have C7 := Lib.hid (fun (W : World) (hB : Below w.heap.size w W) => admits_any W A L n c hn (by omega) (hs.below hB) (fun r hr => (hok r hr).below hB) h p m (by omega))
  have C8 := Lib.hid (fun (W : World) (hB : Below w.heap.size w W) => radmits_any W A L n c hn hmax (hs.below hB) (fun r hr => (hok r hr).below hB) h p m hz hz2)
  have C9 := Lib.hid (fun (W : World) (hB : Below w.heap.size w W) => wakes_any W (hp.below hB))
  have I0 := Lib.hid (Ok.box (w := w) (r := r))
  have B0 : Hid (Below w.heap.size w (w.alloc (.cells #[.bool r.al, .string r.h, .int .i64 r.lo, .int .i64 r.hi, .slice r.A r.n r.c] 25))) := Lib.hid ((Below.refl _ _).alloc (Nat.le_refl _) _)
  clear hn hmax hs hok hz hr hrz hz2 hp
  generalize mayF r = a1 at *
  generalize allF L = a2 at *
  generalize matchF (bl h) p (bl m) r = a3 at *
  generalize admitF L (bl h) p (bl m) = a4 at *
  go_enter Tryd.func3, Tryd.ntmps3
  go_wp2_with fail
  generalize w.alloc (.cells #[.bool r.al, .string r.h, .int .i64 r.lo, .int .i64 r.hi, .slice r.A r.n r.c] 25) = w1 at *
  have x0 := cells5 I0.out
  have D0 : Hid (Below w.heap.size w w1.drew) := Lib.hid (below_drewN9 B0.out)
  have J0 := Lib.hid (I0.out.drew)
  have CC1 := Lib.hid (C1.out w1.drew D0.out)
  clear C1
  go_region_held3 (fun w' => w'.cell? ⟨w.heap.size, 0, none⟩ = some (.bool r.al) ∧ w'.cell? ⟨w.heap.size, 1, none⟩ = some (.string r.h) ∧ w'.cell? ⟨w.heap.size, 2, none⟩ = some (.int .i64 r.lo) ∧ w'.cell? ⟨w.heap.size, 3, none⟩ = some (.int .i64 r.hi) ∧ w'.cell? ⟨w.heap.size, 4, none⟩ = some (.slice r.A r.n r.c)) (first | exact x0 | exact x1 | exact x2 | exact x3 | exact x4 | exact x5 | exact x6 | exact x7 | exact x8 | exact x9 | go_keep)
    (first | (go_at_call 8; (with_reducible refine CC1.out.mono ?_); rintro e v1 ⟨rfl, b1⟩; have J1 := Lib.hid (is_below J0.out b1); have x1 := cells5 J1.out; have D1 := Lib.hid (D0.out.trans (b1.mono D0.out.size)); have CC2 := Lib.hid (C2.out v1 D1.out); clear b1) | (go_at_call 9; (with_reducible refine CC2.out.mono ?_); rintro e v2 ⟨rfl, b2⟩; have J2 := Lib.hid (is_below J1.out b2); have x2 := cells5 J2.out; have D2 := Lib.hid (D1.out.trans (b2.mono D1.out.size)); have CC3 := Lib.hid (C3.out v2 D2.out); clear b2) | (go_at_call 10; (with_reducible refine CC3.out.mono ?_); rintro e v3 ⟨rfl, b3⟩; have J3 := Lib.hid (is_below J2.out b3); have x3 := cells5 J3.out; have D3 := Lib.hid (D2.out.trans (b3.mono D2.out.size)); have CC4 := Lib.hid (C4.out v3 D3.out); clear b3) | (go_at_call 11; (with_reducible refine CC4.out.mono ?_); rintro e v4 ⟨rfl, b4⟩; have J4 := Lib.hid (is_below J3.out b4); have x4 := cells5 J4.out; have D4 := Lib.hid (D3.out.trans (b4.mono D3.out.size)); have CC5 := Lib.hid (C5.out v4 D4.out); clear b4) | (go_at_call 12; (with_reducible refine CC5.out.mono ?_); rintro e v5 ⟨rfl, b5⟩; have J5 := Lib.hid (is_below J4.out b5); have x5 := cells5 J5.out; have D5 := Lib.hid (D4.out.trans (b5.mono D4.out.size)); have CC6 := Lib.hid (C6.out v5 D5.out); clear b5) | (go_at_call 13; (with_reducible refine CC6.out.mono ?_); rintro e v6 ⟨rfl, b6⟩; have J6 := Lib.hid (is_below J5.out b6); have x6 := cells5 J6.out; have D6 := Lib.hid (D5.out.trans (b6.mono D5.out.size)); have CC7 := Lib.hid (C7.out v6 D6.out); clear b6) | (go_at_call 14; (with_reducible refine CC7.out.mono ?_); rintro e v7 ⟨rfl, b7⟩; have J7 := Lib.hid (is_below J6.out b7); have x7 := cells5 J7.out; have D7 := Lib.hid (D6.out.trans (b7.mono D6.out.size)); have CC8 := Lib.hid (C8.out v7 D7.out); clear b7) | (go_at_call 15; (with_reducible refine CC8.out.mono ?_); rintro e v8 ⟨rfl, b8⟩; have J8 := Lib.hid (is_below J7.out b8); have x8 := cells5 J8.out; have D8 := Lib.hid (D7.out.trans (b8.mono D7.out.size)); have CC9 := Lib.hid (C9.out v8 D8.out); clear b8) | (go_at_call 16; (with_reducible refine CC9.out.mono ?_); rintro e v9 ⟨rfl, b9⟩; have J9 := Lib.hid (is_below J8.out b9); have x9 := cells5 J9.out; have D9 := Lib.hid (D8.out.trans (b9.mono D8.out.size)); clear b9))
  all_goals
    go_wp2_with fail
    go_ret
    exact ⟨rfl, D9.out⟩
end Go.Proofs.YtcmnnidjamdmeaaDoor.Acl
