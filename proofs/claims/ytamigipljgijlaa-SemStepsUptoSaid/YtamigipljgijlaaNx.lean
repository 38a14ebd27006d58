/- THE WALKS of the document's semaphore: steps by kind and place. -/
import Derived.Test.YtamigipljgijlaaNo
import Derived.Test.YtamigipljgijlaaNp
import Derived.Test.YtamigipljgijlaaNq
import Derived.Test.YtamigipljgijlaaNr
import Derived.Test.YtamigipljgijlaaNt
import Derived.Test.YtamigipljgijlaaNu
import Derived.Test.YtamigipljgijlaaNv
import Derived.Test.YtamigipljgijlaaNw
import Derived.Test.YtamigipljgijlaaNs
namespace Go.Proofs.Ytamigipljgijlaa
open Go Go.RowKit
set_option maxRecDepth 100000
set_option maxHeartbeats 6400000
theorem rwait1 {pl d g k fi la su wy : Int} (w : World) :
    Calls Try.prog 28 #[.agg #[.int .u64 pl, .int .u64 d, .int .u64 g], .agg #[.int .u8 k, .int .i64 1, .int .u64 fi, .int .u64 la, .bool false, .int .u64 su, .int .i64 wy]] w fun e w' => e = .returned (.tuple #[.agg #[.int .u64 pl, .int .u64 d, .int .u64 g], .agg #[.int .u8 k, .int .i64 1, .int .u64 fi, .int .u64 la, .bool (decide (su < IntKind.u64.wrap (pl + g))), .int .u64 su, .int .i64 wy], .agg #[.int .u8 1, .int .i64 1, .int .u64 g, .int .u64 g, .bool true]]) ∧ Below w.heap.size w w' := by
  have HB := Lib.hid (stpS_begin w [.int .u64 pl, .int .u64 d, .int .u64 g] [.int .u8 k, .int .i64 1, .int .u64 fi, .int .u64 la, .bool false, .int .u64 su, .int .i64 wy])
  go_enter Try.func28, Try.ntmps28
  go_upto_region 1 with fail
  go_cut [10] (fun s10 wx => s10 = .bool false ∧ ∃ b0 b1 b2 b3 b4, b0 = w.heap.size ∧ b1 = w.heap.size + 1 ∧ b2 = w.heap.size + 1 + 1 ∧ b3 = w.heap.size + 1 + 1 + 1 ∧ b4 = w.heap.size + 1 + 1 + 1 + 1 ∧ StpS w b0 b1 b2 b3 b4 [.int .u64 pl, .int .u64 d, .int .u64 g] [.int .u8 k, .int .i64 1, .int .u64 fi, .int .u64 la, .bool false, .int .u64 su, .int .i64 wy] wx)
  case first =>
    go_wp2
    go_meet
    exact ⟨rfl, _, _, _, _, _, rfl, rfl, rfl, rfl, rfl, HB.out⟩
  case rest =>
    obtain ⟨rfl, b0, b1, b2, b3, b4, hb0, hb1, hb2, hb3, hb4, hP⟩ := hcut
    rw [← hb4, ← hb3, ← hb2, ← hb1, ← hb0]
    have HR := Lib.hid hP
    obtain ⟨gt0, gt1, gt2, gt3, gt4⟩ := hP.gt
    have x0 := hP.r.lt
    have x1 := hP.u.lt
    have x2 := hP.rr.lt
    have x3 := hP.ru.lt
    have x4 := hP.rd.lt
    have y01 : ¬ b0 = b1 := by omega
    have y02 : ¬ b0 = b2 := by omega
    have y03 : ¬ b0 = b3 := by omega
    have y04 : ¬ b0 = b4 := by omega
    have y10 : ¬ b1 = b0 := by omega
    have y12 : ¬ b1 = b2 := by omega
    have y13 : ¬ b1 = b3 := by omega
    have y14 : ¬ b1 = b4 := by omega
    have y20 : ¬ b2 = b0 := by omega
    have y21 : ¬ b2 = b1 := by omega
    have y23 : ¬ b2 = b3 := by omega
    have y24 : ¬ b2 = b4 := by omega
    have y30 : ¬ b3 = b0 := by omega
    have y31 : ¬ b3 = b1 := by omega
    have y32 : ¬ b3 = b2 := by omega
    have y34 : ¬ b3 = b4 := by omega
    have y40 : ¬ b4 = b0 := by omega
    have y41 : ¬ b4 = b1 := by omega
    have y42 : ¬ b4 = b2 := by omega
    have y43 : ¬ b4 = b3 := by omega
    obtain ⟨w0, w1, w2⟩ := hP.r.three3
    obtain ⟨v0, v1, v2, v3, v4, v5, v6⟩ := hP.u.seven
    obtain ⟨r0, r1, r2⟩ := hP.rr.three3
    obtain ⟨q0, q1, q2, q3, q4, q5, q6⟩ := hP.ru.seven
    obtain ⟨z0, z1, z2, z3, z4⟩ := hP.rd.five6
    have wf := hP.r.free
    have uf := hP.u.free
    have rf := hP.rr.free
    have qf := hP.ru.free
    have zf := hP.rd.free
    clear hP hb0 hb1 hb2 hb3 hb4
    go_upto_region 8 with fail
    go_cut [] (fun wx => Row wx b2 31 [.int .u64 pl, .int .u64 d, .int .u64 g] ∧ Row wx b3 40 [.int .u8 k, .int .i64 1, .int .u64 fi, .int .u64 la, .bool (decide (su < IntKind.u64.wrap (pl + g))), .int .u64 su, .int .i64 wy] ∧ Row wx b4 45 [.int .u8 1, .int .i64 1, .int .u64 g, .int .u64 g, .bool true] ∧ Below w.heap.size w wx)
    case first =>

      go_region_with ((go_at_call 31; (with_reducible refine (rload_at _ _ _).mono ?_); rintro e w5 ⟨rfl, rfl⟩))
      all_goals
        go_wp2_with fail
        go_meet
        refine ⟨?_, ?_, ?_, ?_⟩
        · exact Row.of_eq (Row.drew (Row.alloc (Row.far (Row.far (Row.far (Row.far (Row.far (Row.far (Row.far (Row.far (Row.far (Row.far (Row.far (Row.far (Row.set (Row.set (Row.set (Row.far HR.out.rr (p := ⟨b1, 4, none⟩) y12 _) 0 _) 1 _) 2 _) (p := ⟨b3, 0, none⟩) y32 _) (p := ⟨b3, 1, none⟩) y32 _) (p := ⟨b3, 2, none⟩) y32 _) (p := ⟨b3, 3, none⟩) y32 _) (p := ⟨b3, 4, none⟩) y32 _) (p := ⟨b3, 5, none⟩) y32 _) (p := ⟨b3, 6, none⟩) y32 _) (p := ⟨b4, 0, none⟩) y42 _) (p := ⟨b4, 1, none⟩) y42 _) (p := ⟨b4, 2, none⟩) y42 _) (p := ⟨b4, 3, none⟩) y42 _) (p := ⟨b4, 4, none⟩) y42 _) _)) rfl
        · exact Row.of_eq (Row.drew (Row.alloc (Row.far (Row.far (Row.far (Row.far (Row.far (Row.set (Row.set (Row.set (Row.set (Row.set (Row.set (Row.set (Row.far (Row.far (Row.far (Row.far HR.out.ru (p := ⟨b1, 4, none⟩) y13 _) (p := ⟨b2, 0, none⟩) y23 _) (p := ⟨b2, 1, none⟩) y23 _) (p := ⟨b2, 2, none⟩) y23 _) 0 _) 1 _) 2 _) 3 _) 4 _) 5 _) 6 _) (p := ⟨b4, 0, none⟩) y43 _) (p := ⟨b4, 1, none⟩) y43 _) (p := ⟨b4, 2, none⟩) y43 _) (p := ⟨b4, 3, none⟩) y43 _) (p := ⟨b4, 4, none⟩) y43 _) _)) rfl
        · exact Row.of_eq (Row.drew (Row.alloc (Row.set (Row.set (Row.set (Row.set (Row.set (Row.far (Row.far (Row.far (Row.far (Row.far (Row.far (Row.far (Row.far (Row.far (Row.far (Row.far HR.out.rd (p := ⟨b1, 4, none⟩) y14 _) (p := ⟨b2, 0, none⟩) y24 _) (p := ⟨b2, 1, none⟩) y24 _) (p := ⟨b2, 2, none⟩) y24 _) (p := ⟨b3, 0, none⟩) y34 _) (p := ⟨b3, 1, none⟩) y34 _) (p := ⟨b3, 2, none⟩) y34 _) (p := ⟨b3, 3, none⟩) y34 _) (p := ⟨b3, 4, none⟩) y34 _) (p := ⟨b3, 5, none⟩) y34 _) (p := ⟨b3, 6, none⟩) y34 _) 0 _) 1 _) 2 _) 3 _) 4 _) _)) rfl
        · repeat (first | (with_reducible exact HR.out.low) | (with_reducible refine Below.drew ?_) | (with_reducible refine Below.draws ?_ _) | (with_reducible refine Below.alloc ?_ (by (try simp); omega) _) | (with_reducible refine Below.setCell ?_ (by (try simp); omega) _))
    case rest =>
      obtain ⟨h2, h3, h4, hb⟩ := hcut
      clear r0 r1 r2 q0 q1 q2 q3 q4 q5 q6 z0 z1 z2 z3 z4
      obtain ⟨r0, r1, r2⟩ := h2.three3
      obtain ⟨q0, q1, q2, q3, q4, q5, q6⟩ := h3.seven
      obtain ⟨z0, z1, z2, z3, z4⟩ := h4.five6
      go_wp2
      refine bodyPost_ret (v := .tuple #[.agg #[.int .u64 pl, .int .u64 d, .int .u64 g], .agg #[.int .u8 k, .int .i64 1, .int .u64 fi, .int .u64 la, .bool (decide (su < IntKind.u64.wrap (pl + g))), .int .u64 su, .int .i64 wy], .agg #[.int .u8 1, .int .i64 1, .int .u64 g, .int .u64 g, .bool true]]) (by simp [results, Try.results28, go_sem, r0, r1, r2, q0, q1, q2, q3, q4, q5, q6, z0, z1, z2, z3, z4]) rfl ⟨rfl, hb⟩
/-- the document's record of an operation, but its kind -/
structure DocS where
  at_ : Int
  fi : Int
  la : Int
  en : Bool
  su : Int
  wy : Int
def undS (k : Int) (u : DocS) : List Value := [.int .u8 k, .int .i64 u.at_, .int .u64 u.fi, .int .u64 u.la, .bool u.en, .int .u64 u.su, .int .i64 u.wy]
/-- how it stands to ours -/
def InvS (o : OpS) (u : DocS) : Prop :=
  (o.ph = 9 ∧ u.en = true ∧ u.wy = o.why ∧ (o.why = 0 → u.su = o.ans) ∧ (¬ o.why = 0 → o.ans = 0)) ∨
  (¬ o.ph = 9 ∧ u.en = false ∧ u.wy = 0 ∧ o.ans = 0 ∧ o.why = 0 ∧ u.at_ = (o.ph : Int) ∧ (o.k = 1 → o.ph = 1 → u.su = o.a) ∧ (o.k = 2 → o.ph = 1 → u.fi = o.a) ∧ (o.k = 2 → o.ph = 2 → u.la = o.b) ∧ (o.k = 3 → (o.ph = 1 ∨ o.ph = 2) → u.la = o.a) ∧ (o.k = 4 → o.ph = 1 → u.fi = o.a))
theorem InvS.new (k : Int) : InvS (newS k) ⟨0, 0, 0, false, 0, 0⟩ := by simp [InvS, newS]
/-- what a step of the document's leaves -/
def DSteppedS (w : World) (pl d g : Int) (o : OpS) (e : Ending) (w' : World) : Prop :=
  ∃ u', InvS (stepS pl d g o) u' ∧ e = .returned (.tuple #[.agg #[.int .u64 pl, .int .u64 (stepD d o), .int .u64 (stepG g o)], .agg (undS o.k u').toArray, .agg (didS d g o)]) ∧ Below w.heap.size w w'
theorem sfin {w : World} {pl d g d2 g2 : Int} {o o2 : OpS} {did : Array Value} {v : Value} (u' : DocS) (h1 : stepS pl d g o = o2) (hi : InvS o2 u') (h2 : stepD d o = d2) (h3 : stepG g o = g2) (h4 : didS d g o = did)
    (hv : v = .tuple #[.agg #[.int .u64 pl, .int .u64 d2, .int .u64 g2], .agg (undS o.k u').toArray, .agg did]) : ∀ e w', (e = .returned v ∧ Below w.heap.size w w') → DSteppedS w pl d g o e w' := by
  rintro e w' ⟨rfl, hb⟩
  exact ⟨u', by rw [h1]; exact hi, by rw [h2, h3, h4, hv], hb⟩
theorem dsstep_op {pl d g : Int} {o : OpS} {u : DocS} (ho : OkS o) (hi : InvS o u) (w : World) :
    Calls Try.prog 11 #[.agg #[.int .u64 pl, .int .u64 d, .int .u64 g], .agg (undS o.k u).toArray] w (DSteppedS w pl d g o) := by
  obtain ⟨k, ph, a, b, ans, why⟩ := o
  obtain ⟨ap, fi, la, en, su, wy⟩ := u
  by_cases h9 : ph = 9
  · subst h9
    rcases hi with ⟨_, h1, h2, h3, h4⟩ | ⟨h, _⟩
    · dsimp only at h1 h2 h3 h4
      subst h1
      refine (rstep_ended w).mono (sfin (pl := pl) (d := d) (g := g) (o := ⟨k, 9, a, b, ans, why⟩) ⟨ap, fi, la, true, su, wy⟩ (o2 := ⟨k, 9, a, b, ans, why⟩) (by simp [stepS]) (.inl ⟨rfl, rfl, h2, h3, h4⟩) (d2 := d) (g2 := g) (by simp [stepD]) (by simp [stepG]) (did := #[.int .u8 0, .int .i64 0, .int .u64 0, .int .u64 0, .bool false]) (by simp [didS]) rfl)
    · exact absurd rfl h
  · rcases hi with ⟨h, _⟩ | ⟨_, h1, h2, h3, h4, h5, i1, i2, i3, i4, i5⟩
    · exact absurd h h9
    · dsimp only at h1 h2 h3 h4 h5 i1 i2 i3 i4 i5
      subst h1 h2 h3 h4 h5
      rcases ho with h | ⟨hk, hp⟩
      · exact absurd h h9
      dsimp only at hk hp
      rcases hk with rfl | rfl | rfl | rfl
      · rcases hp with rfl | rfl | ⟨rfl, hk⟩
        · exact (rstep_enter (fun w => renter0 w) w).mono (sfin (pl := pl) (d := d) (g := g) (o := ⟨1, 0, a, b, 0, 0⟩) ⟨1, fi, la, false, d, 0⟩ (o2 := ⟨1, 1, d, b, 0, 0⟩) (by simp [stepS]) (by simp [InvS]) (d2 := up d) (g2 := g) (by simp [stepD]) (by simp [stepG]) (did := #[.int .u8 3, .int .i64 0, .int .u64 d, .int .u64 (up d), .bool true]) (by simp [didS]) rfl)
        · obtain rfl := i1 rfl rfl
          by_cases h : su < IntKind.u64.wrap (pl + g)
          · have e : decide (su < IntKind.u64.wrap (pl + g)) = true := by simpa using h
            have H : ∀ w : World, _ := fun w => rwait1 (pl := pl) (d := d) (g := g) (k := 1) (fi := fi) (la := la) (su := su) (wy := 0) w
            simp only [e] at H
            exact (rstep_enter H w).mono (sfin (pl := pl) (d := d) (g := g) (o := ⟨1, 1, su, b, 0, 0⟩) ⟨1, fi, la, true, su, 0⟩ (o2 := ⟨1, 9, su, b, su, 0⟩) (by simp [stepS, h]) (by simp [InvS]) (d2 := d) (g2 := g) (by simp [stepD, h]) (by simp [stepG, h]) (did := #[.int .u8 1, .int .i64 1, .int .u64 g, .int .u64 g, .bool true]) (by simp [didS, h]) rfl)
          · have e : decide (su < IntKind.u64.wrap (pl + g)) = false := by simpa using h
            have H : ∀ w : World, _ := fun w => rwait1 (pl := pl) (d := d) (g := g) (k := 1) (fi := fi) (la := la) (su := su) (wy := 0) w
            simp only [e] at H
            exact (rstep_enter H w).mono (sfin (pl := pl) (d := d) (g := g) (o := ⟨1, 1, su, b, 0, 0⟩) ⟨1, fi, la, false, su, 0⟩ (o2 := ⟨1, 1, su, b, 0, 0⟩) (by simp [stepS, h]) (by simp [InvS]) (d2 := d) (g2 := g) (by simp [stepD, h]) (by simp [stepG, h]) (did := #[.int .u8 1, .int .i64 1, .int .u64 g, .int .u64 g, .bool true]) (by simp [didS, h]) rfl)
        · omega
      · rcases hp with rfl | rfl | ⟨rfl, hk⟩
        · exact (rstep_try (fun w => rtry0 w) w).mono (sfin (pl := pl) (d := d) (g := g) (o := ⟨2, 0, a, b, 0, 0⟩) ⟨1, g, la, false, su, 0⟩ (o2 := ⟨2, 1, g, b, 0, 0⟩) (by simp [stepS]) (by simp [InvS]) (d2 := d) (g2 := g) (by simp [stepD]) (by simp [stepG]) (did := #[.int .u8 1, .int .i64 1, .int .u64 g, .int .u64 g, .bool true]) (by simp [didS]) rfl)
        · obtain rfl := i2 rfl rfl
          by_cases h : IntKind.u64.wrap (pl + fi) ≤ d
          · exact (rstep_try (fun w => rtry1f (by simpa using h) w) w).mono (sfin (pl := pl) (d := d) (g := g) (o := ⟨2, 1, fi, b, 0, 0⟩) ⟨2, fi, d, true, su, 51⟩ (o2 := ⟨2, 9, fi, b, 0, 51⟩) (by simp [stepS, h]) (by simp [InvS]) (d2 := d) (g2 := g) (by simp [stepD, h]) (by simp [stepG, h]) (did := #[.int .u8 1, .int .i64 0, .int .u64 d, .int .u64 d, .bool true]) (by simp [didS, h]) rfl)
          · exact (rstep_try (fun w => rtry1m (by simpa using h) w) w).mono (sfin (pl := pl) (d := d) (g := g) (o := ⟨2, 1, fi, b, 0, 0⟩) ⟨2, fi, d, false, su, 0⟩ (o2 := ⟨2, 2, fi, d, 0, 0⟩) (by simp [stepS, h]) (by simp [InvS]) (d2 := d) (g2 := g) (by simp [stepD, h]) (by simp [stepG, h]) (did := #[.int .u8 1, .int .i64 0, .int .u64 d, .int .u64 d, .bool true]) (by simp [didS, h]) rfl)
        · obtain rfl := i3 rfl rfl
          by_cases h : d = la
          · subst h
            exact (rstep_try (fun w => rtry2h w) w).mono (sfin (pl := pl) (d := d) (g := g) (o := ⟨2, 2, a, d, 0, 0⟩) ⟨0, fi, d, true, d, 0⟩ (o2 := ⟨2, 9, a, d, d, 0⟩) (by simp [stepS]) (by simp [InvS]) (d2 := up d) (g2 := g) (by simp [stepD]) (by simp [stepG]) (did := #[.int .u8 5, .int .i64 0, .int .u64 d, .int .u64 (up d), .bool true]) (by simp [didS]) rfl)
          · exact (rstep_try (fun w => rtry2m (by simpa using h) w) w).mono (sfin (pl := pl) (d := d) (g := g) (o := ⟨2, 2, a, la, 0, 0⟩) ⟨0, fi, la, false, su, 0⟩ (o2 := ⟨2, 0, a, la, 0, 0⟩) (by simp [stepS, h]) (by simp [InvS]) (d2 := d) (g2 := g) (by simp [stepD, h]) (by simp [stepG, h]) (did := #[.int .u8 5, .int .i64 0, .int .u64 d, .int .u64 d, .bool false]) (by simp [didS, h]) rfl)
      · rcases hp with rfl | rfl | ⟨rfl, hk⟩
        · exact (rstep_leave (fun w => rleave0 w) w).mono (sfin (pl := pl) (d := d) (g := g) (o := ⟨3, 0, a, b, 0, 0⟩) ⟨1, fi, g, false, su, 0⟩ (o2 := ⟨3, 1, g, b, 0, 0⟩) (by simp [stepS]) (by simp [InvS]) (d2 := d) (g2 := g) (by simp [stepD]) (by simp [stepG]) (did := #[.int .u8 1, .int .i64 1, .int .u64 g, .int .u64 g, .bool true]) (by simp [didS]) rfl)
        · obtain rfl := i4 rfl (.inl rfl)
          by_cases h : d ≤ la
          · exact (rstep_leave (fun w => rleave1f (by simpa using h) w) w).mono (sfin (pl := pl) (d := d) (g := g) (o := ⟨3, 1, la, b, 0, 0⟩) ⟨2, fi, la, true, su, 70⟩ (o2 := ⟨3, 9, la, b, 0, 70⟩) (by simp [stepS, h]) (by simp [InvS]) (d2 := d) (g2 := g) (by simp [stepD, h]) (by simp [stepG, h]) (did := #[.int .u8 1, .int .i64 0, .int .u64 d, .int .u64 d, .bool true]) (by simp [didS, h]) rfl)
          · exact (rstep_leave (fun w => rleave1m (by simpa using h) w) w).mono (sfin (pl := pl) (d := d) (g := g) (o := ⟨3, 1, la, b, 0, 0⟩) ⟨2, fi, la, false, su, 0⟩ (o2 := ⟨3, 2, la, d, 0, 0⟩) (by simp [stepS, h]) (by simp [InvS]) (d2 := d) (g2 := g) (by simp [stepD, h]) (by simp [stepG, h]) (did := #[.int .u8 1, .int .i64 0, .int .u64 d, .int .u64 d, .bool true]) (by simp [didS, h]) rfl)
        · obtain rfl := i4 rfl (.inr rfl)
          by_cases h : g = la
          · subst h
            exact (rstep_leave (fun w => rleave2h w) w).mono (sfin (pl := pl) (d := d) (g := g) (o := ⟨3, 2, g, b, 0, 0⟩) ⟨0, fi, g, true, up g, 0⟩ (o2 := ⟨3, 9, g, b, up g, 0⟩) (by simp [stepS]) (by simp [InvS]) (d2 := d) (g2 := up g) (by simp [stepD]) (by simp [stepG]) (did := #[.int .u8 5, .int .i64 1, .int .u64 g, .int .u64 (up g), .bool true]) (by simp [didS]) rfl)
          · exact (rstep_leave (fun w => rleave2m (by simpa using h) w) w).mono (sfin (pl := pl) (d := d) (g := g) (o := ⟨3, 2, la, b, 0, 0⟩) ⟨0, fi, la, false, su, 0⟩ (o2 := ⟨3, 0, la, b, 0, 0⟩) (by simp [stepS, h]) (by simp [InvS]) (d2 := d) (g2 := g) (by simp [stepD, h]) (by simp [stepG, h]) (did := #[.int .u8 5, .int .i64 1, .int .u64 g, .int .u64 g, .bool false]) (by simp [didS, h]) rfl)
      · rcases hp with rfl | rfl | ⟨rfl, hk⟩
        · exact (rinside0 w).mono (sfin (pl := pl) (d := d) (g := g) (o := ⟨4, 0, a, b, 0, 0⟩) ⟨1, g, la, false, su, 0⟩ (o2 := ⟨4, 1, g, b, 0, 0⟩) (by simp [stepS]) (by simp [InvS]) (d2 := d) (g2 := g) (by simp [stepD]) (by simp [stepG]) (did := #[.int .u8 1, .int .i64 1, .int .u64 g, .int .u64 g, .bool true]) (by simp [didS]) rfl)
        · obtain rfl := i5 rfl rfl
          exact (rinside1 w).mono (sfin (pl := pl) (d := d) (g := g) (o := ⟨4, 1, fi, b, 0, 0⟩) ⟨2, fi, la, true, IntKind.u64.wrap (min d (IntKind.u64.wrap (pl + fi)) - fi), 0⟩ (o2 := ⟨4, 9, fi, b, IntKind.u64.wrap (min d (IntKind.u64.wrap (pl + fi)) - fi), 0⟩) (by simp [stepS]) (by simp [InvS]) (d2 := d) (g2 := g) (by simp [stepD]) (by simp [stepG]) (did := #[.int .u8 1, .int .i64 0, .int .u64 d, .int .u64 d, .bool true]) (by simp [didS]) rfl)
        · omega
end Go.Proofs.Ytamigipljgijlaa
