/- The law's awake is true. -/
import Derived.Test.YtgihggaokamonaaFrameE
namespace Go.Proofs.Ytgihggaokamonaa
open Go Go.RowKit Go.Proofs.BerM Go.Proofs.BerK Go.Proofs.MemK
set_option linter.unusedVariables false

theorem feed_below {B g most : Nat} {x : FS} {r : Option Nat} {w w' : World} (h : Fr w B g most x r) (hB : B ≤ w.heap.size) (hg : B ≤ g) (hc : Chg (fun k => k = g ∨ some k = r) w w') : Below B w w' :=
  hc.toBelow hB fun k _ hk => by
    rcases hk with hk | hk
    · omega
    · exact (fr_block h k hk.symm).1
theorem turn_below {B g : Nat} {w w' : World} (hB : B ≤ w.heap.size) (hg : B ≤ g) (hc : Chg (fun k => k = g) w w') : Below B w w' :=
  hc.toBelow hB fun k _ hk => by omega

/-- Feed of what one has. -/
theorem feed_is {B g most : Nat} {x y : FS} {s : ByteArray} (hy : fFeed most x s.data.toList = y) (hs : x.1.length + s.size ≤ 1000000) : ∀ (w : World) (r : Option Nat), Fr w B g most x r → B ≤ w.heap.size →
    Calls Try.prog 8 #[.pointer (some ⟨g, 0, none⟩), .string s] w (FeedPost B g most y r w) := by
  intro w r h hB
  rw [← hy]
  exact feed_any B g most x r w h hB s hs
theorem nxt_is {B g most : Nat} {x y : FS} {t : List UInt8} {ok : Bool} (hy : fNext most x = (y, t, ok)) (ht : toldF most x) : ∀ (w : World) (r : Option Nat), Fr w B g most x r → B ≤ w.heap.size →
    Calls Try.prog 10 #[.pointer (some ⟨g, 0, none⟩)] w (TurnPost (.tuple #[.string ⟨t.toArray⟩, .bool ok]) B g most y r w) := by
  intro w r h hB
  have := nxt_any B g most x r w h hB ht
  rw [NextVal, hy] at this
  exact this

set_option maxHeartbeats 1600000 in
set_option maxRecDepth 100000 in
theorem awake_any (w : World) : Calls Try.prog 6 #[] w fun e w' => e = .returned (.bool true) ∧ Below w.heap.size w w' := by
  have HN := Lib.hid (new_ok w.heap.size 100 w (by omega) (by omega))
  have HE := Lib.hid fun w => new_err 0 w (.inl (by omega))
  have H1 := Lib.hid (feed_is (B := w.heap.size) (g := w.heap.size) (most := 100) (x := ([], 0)) (y := ([48, 0, 48], 0)) (s := ⟨#[48, 0, 48]⟩) (by decide +kernel) (by decide))
  have H2 := Lib.hid (nxt_is (B := w.heap.size) (g := w.heap.size) (most := 100) (x := ([48, 0, 48], 0)) (y := ([48], 0)) (t := [48, 0]) (ok := true) (by decide +kernel) (.inr (by decide +kernel)))
  have H3 := Lib.hid (nxt_is (B := w.heap.size) (g := w.heap.size) (most := 100) (x := ([48], 0)) (y := ([48], 0)) (t := []) (ok := false) (by decide +kernel) (.inr (by decide +kernel)))
  have H4 := Lib.hid (feed_is (B := w.heap.size) (g := w.heap.size) (most := 100) (x := ([48], 0)) (y := ([48, 1, 5, 49], 0)) (s := ⟨#[1, 5, 49]⟩) (by decide +kernel) (by decide))
  have H5 := Lib.hid (nxt_is (B := w.heap.size) (g := w.heap.size) (most := 100) (x := ([48, 1, 5, 49], 0)) (y := ([49], 6)) (t := [48, 1, 5]) (ok := true) (by decide +kernel) (.inr (by decide +kernel)))
  go_enter Try.func6, Try.ntmps6
  go_wp2_with fail
  refine HN.out.mono ?_
  rintro en w1 ⟨rfl, hfr, hb1, hsz⟩
  have F1 := Lib.hid hfr
  have B1 := Lib.hid hb1
  have S1 := Lib.hid hb1.size
  clear hfr hb1 hsz
  go_wp2_with fail
  refine (HE.out _).mono ?_
  rintro en w2 ⟨rfl, rfl⟩
  go_wp2_with fail
  refine (H1.out _ _ F1.out S1.out).mono ?_
  rintro en w3 ⟨rfl, r3, hfr, _, hc⟩
  have F3 := Lib.hid hfr
  have B3 := Lib.hid (B1.out.trans (feed_below F1.out S1.out (Nat.le_refl _) hc))
  clear hfr hc
  go_wp2_with fail
  refine (H2.out _ _ F3.out B3.out.size).mono ?_
  rintro en w4 ⟨rfl, r4, hfr, _, hc⟩
  have F4 := Lib.hid hfr
  have B4 := Lib.hid (B3.out.trans (turn_below B3.out.size (Nat.le_refl _) hc))
  clear hfr hc
  go_wp2_with fail
  refine (H3.out _ _ F4.out B4.out.size).mono ?_
  rintro en w5 ⟨rfl, r5, hfr, _, hc⟩
  have F5 := Lib.hid hfr
  have B5 := Lib.hid (B4.out.trans (turn_below B4.out.size (Nat.le_refl _) hc))
  clear hfr hc
  go_wp2_with fail
  refine (left_any _ _ _ _ _ _ F5.out).mono ?_
  rintro en w6 ⟨rfl, rfl⟩
  go_wp2_with fail
  refine (err_any _ _ _ _ _ _ F5.out).mono ?_
  rintro en w6 ⟨rfl, rfl⟩
  go_wp2_with fail
  refine (H4.out _ _ F5.out B5.out.size).mono ?_
  rintro en w7 ⟨rfl, r7, hfr, _, hc⟩
  have F7 := Lib.hid hfr
  have B7 := Lib.hid (B5.out.trans (feed_below F5.out B5.out.size (Nat.le_refl _) hc))
  clear hfr hc
  go_wp2_with fail
  refine (H5.out _ _ F7.out B7.out.size).mono ?_
  rintro en w8 ⟨rfl, r8, hfr, _, hc⟩
  have F8 := Lib.hid hfr
  have B8 := Lib.hid (B7.out.trans (turn_below B7.out.size (Nat.le_refl _) hc))
  clear hfr hc
  go_wp2_with fail
  refine (err_any _ _ _ _ _ _ F8.out).mono ?_
  rintro en w9 ⟨rfl, rfl⟩
  go_wp2
  go_ret
  exact ⟨rfl, B8.out⟩
end Go.Proofs.Ytgihggaokamonaa
