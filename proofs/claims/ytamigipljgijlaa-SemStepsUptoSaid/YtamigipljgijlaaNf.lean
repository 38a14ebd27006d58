/- THE WALKS of package sem: New, Start, Done, Answer, do. -/
import Derived.Test.YtamigipljgijlaaNe
namespace Go.Proofs.Ytamigipljgijlaa
open Go Go.RowKit
set_option maxRecDepth 100000
theorem SemM.on {w w' : World} {bs bk bw : Nat} {pl d g : Int} (h : SemM w bs bk bw pl d g) (hb : Below w.heap.size w w') : SemM w' bs bk bw pl d g :=
  have hP := Part.of_below hb (Nat.le_refl _) []
  ⟨h.head.part hP (by simp), h.words.part hP (by simp) (by simp)⟩
theorem Below.draws {B : Nat} {w w' : World} (h : Below B w w') (n : Nat) : Below B w (w'.drewN n) := ⟨h.os, h.tape, h.output, h.size, h.block⟩
def FreshS (w : World) (n : Nat) (e : Ending) (w' : World) : Prop :=
  ∃ bs bk bw, e = .returned (.tuple #[.pointer (some ⟨bs, 0, none⟩), .int .i64 0]) ∧ w.heap.size ≤ bs ∧ w.heap.size ≤ bk ∧ w.heap.size ≤ bw ∧ SemM w' bs bk bw (n : Int) 0 0 ∧ Below w.heap.size w w'
theorem snew_no {n : Int} (h : n < 1 ∨ 65536 < n) (w : World) : Calls Try.prog 7 #[.int .i64 n] w fun e w' => e = .returned (.tuple #[.pointer none, .int .i64 2]) ∧ w = w' := by
  rcases h with h | h
  · have d : decide (n < 1) = true := by simpa using h
    clear h
    go_enter Try.func7, Try.ntmps7
    go_wp2
    go_ret2
    exact ⟨rfl, rfl⟩
  · have d1 : decide (n < 1) = false := by simp; omega
    have d : decide (65536 < n) = true := by simpa using h
    clear h
    go_enter Try.func7, Try.ntmps7
    go_wp2
    go_ret2
    exact ⟨rfl, rfl⟩
theorem snew_yes (w : World) {n : Nat} (h1 : 1 ≤ n) (h2 : n ≤ 65536) : Calls Try.prog 7 #[.int .i64 (n : Int)] w (FreshS w n) := by
  have d1 : decide ((n : Int) < 1) = false := by simp; omega
  have d2 : decide ((65536 : Int) < (n : Int)) = false := by simp; omega
  go_enter Try.func7, Try.ntmps7
  go_wp2_with (go_at_call 22; refine (new_yes _ (n := 2) (by omega)).mono ?_; rintro e w1 ⟨bk, bw, rfl, hk, hw, hW, hb⟩; have HK := Lib.hid hk; have HW := Lib.hid hw; have HS := Lib.hid hW; have HB := Lib.hid hb; clear hk hw hW hb)
  go_ret2
  have hs := HB.out.size
  exact ⟨w1.heap.size, bk, bw, rfl, hs, HK.out, HW.out, ⟨Row.new _ _ _, HS.out.alloc _⟩, HB.out.alloc hs _⟩
/-- what Start leaves -/
def BegunS (w : World) (bs : Nat) (k : Int) (e : Ending) (w' : World) : Prop :=
  ∃ bp nx, e = .returned (.tuple #[.pointer (some ⟨bp, 0, none⟩), .int .i64 0]) ∧ w.heap.size ≤ bp ∧ Row w' bp 69 (pendM bs nx 0 0) ∧ NextS bp (newS k) w' nx 0 0 ∧ Below w.heap.size w w'
theorem part_new {w w' : World} {o : Obj} (hP : Part [w.heap.size] (w.alloc o) w') : Below w.heap.size w w' :=
  (((Part.refl [w.heap.size] w).alloc o).then_ hP).below (Nat.le_refl _) (by simp)
section
variable {w : World} {bs : Nat}
theorem sstart_enter : Calls Try.prog 8 #[.pointer (some ⟨bs, 0, none⟩), .int .u8 1] w (BegunS w bs 1) := by
  go_enter Try.func8, Try.ntmps8
  go_wp2_with (go_at_call 23; go_loud (refine (enter_any (Row.new w 69 (pendM bs .nilFunc 0 0))).mono ?_); rintro e w1 ⟨rfl, nx', hr, ha, hP⟩; have HR := Lib.hid hr; have HA := Lib.hid ha; have HQ := Lib.hid hP; clear hr ha hP)
  go_ret2
  exact ⟨w.heap.size, nx', rfl, Nat.le_refl _, HR.out, ⟨⟨rfl, rfl⟩, .inr (.inl ⟨rfl, rfl, HA.out⟩)⟩, part_new HQ.out⟩
theorem sstart_try : Calls Try.prog 8 #[.pointer (some ⟨bs, 0, none⟩), .int .u8 2] w (BegunS w bs 2) := by
  go_enter Try.func8, Try.ntmps8
  go_wp2_with (go_at_call 24; go_loud (refine (try_any (Row.new w 69 (pendM bs .nilFunc 0 0))).mono ?_); rintro e w1 ⟨rfl, nx', hr, ha, hP⟩; have HR := Lib.hid hr; have HA := Lib.hid ha; have HQ := Lib.hid hP; clear hr ha hP)
  go_ret2
  exact ⟨w.heap.size, nx', rfl, Nat.le_refl _, HR.out, ⟨⟨rfl, rfl⟩, .inr (.inr (.inr (.inl ⟨rfl, rfl, HA.out⟩)))⟩, part_new HQ.out⟩
theorem sstart_leave : Calls Try.prog 8 #[.pointer (some ⟨bs, 0, none⟩), .int .u8 3] w (BegunS w bs 3) := by
  go_enter Try.func8, Try.ntmps8
  go_wp2_with (go_at_call 25; go_loud (refine (leave_any (Row.new w 69 (pendM bs .nilFunc 0 0))).mono ?_); rintro e w1 ⟨rfl, nx', hr, ha, hP⟩; have HR := Lib.hid hr; have HA := Lib.hid ha; have HQ := Lib.hid hP; clear hr ha hP)
  go_ret2
  exact ⟨w.heap.size, nx', rfl, Nat.le_refl _, HR.out, ⟨⟨rfl, rfl⟩, .inr (.inr (.inr (.inr (.inr (.inr (.inl ⟨rfl, rfl, HA.out⟩))))))⟩, part_new HQ.out⟩
theorem sstart_inside : Calls Try.prog 8 #[.pointer (some ⟨bs, 0, none⟩), .int .u8 4] w (BegunS w bs 4) := by
  go_enter Try.func8, Try.ntmps8
  go_wp2_with (go_at_call 26; go_loud (refine (inside_any (Row.new w 69 (pendM bs .nilFunc 0 0))).mono ?_); rintro e w1 ⟨rfl, nx', hr, ha, hP⟩; have HR := Lib.hid hr; have HA := Lib.hid ha; have HQ := Lib.hid hP; clear hr ha hP)
  go_ret2
  exact ⟨w.heap.size, nx', rfl, Nat.le_refl _, HR.out, ⟨⟨rfl, rfl⟩, .inr (.inr (.inr (.inr (.inr (.inr (.inr (.inr (.inr (.inl ⟨rfl, rfl, HA.out⟩)))))))))⟩, part_new HQ.out⟩
theorem sstart_op {k : Int} (h : k = 1 ∨ k = 2 ∨ k = 3 ∨ k = 4) : Calls Try.prog 8 #[.pointer (some ⟨bs, 0, none⟩), .int .u8 k] w (BegunS w bs k) := by
  rcases h with rfl | rfl | rfl | rfl
  · exact sstart_enter
  · exact sstart_try
  · exact sstart_leave
  · exact sstart_inside
end
section
variable {w : World} {bp bs bk bw : Nat} {nx : Value} {an wy pl d g : Int} {o : OpS}
theorem sdone_op (hp : Row w bp 69 (pendM bs nx an wy)) (hn : NextS bp o w nx an wy) :
    Calls Try.prog 15 #[.pointer (some ⟨bp, 0, none⟩)] w fun e w' => e = .returned (.bool (decide (o.ph = 9))) ∧ w = w' := by
  by_cases h : o.ph = 9
  · obtain rfl := hn.nil_ h
    rw [show decide (o.ph = 9) = true by simpa using h]
    exact done_yes hp
  · obtain ⟨f, cs, rfl⟩ := hn.fn h
    rw [show decide (o.ph = 9) = false by simpa using h]
    exact done_no hp
theorem sanswer_op (hp : Row w bp 69 (pendM bs nx an wy)) (hn : NextS bp o w nx an wy) :
    Calls Try.prog 13 #[.pointer (some ⟨bp, 0, none⟩)] w fun e w' => e = .returned (.tuple #[.int .u64 o.ans, .int .i64 o.why]) ∧ ∃ n, w' = w.drewN n := by
  obtain ⟨⟨rfl, rfl⟩, _⟩ := hn
  exact answer_any hp
theorem sstep_at {d2 g2 : Int} {o2 : OpS} {did : Array Value} {la : Bool} (hp : Row w bp 69 (pendM bs nx an wy)) (hn : NextS bp o w nx an wy) (hs : SemM w bs bk bw pl d g) (h1 : stepS pl d g o = o2) (h2 : stepD d o = d2) (h3 : stepG g o = g2) (h4 : didS d g o = did) (h5 : decide (o2.ph = 9) = la) :
    Calls Try.prog 12 #[.pointer (some ⟨bp, 0, none⟩)] w (StepTo w bp bs bk bw pl d2 g2 did la (NextS bp o2)) := by
  subst h1 h2 h3 h4 h5
  exact sstep_op hp hn hs
end
/-- what did is, as five cells -/
theorem did_five_s (d g : Int) (o : OpS) : ∃ d0 d1 d2 d3 d4, didS d g o = #[.int .u8 d0, .int .i64 d1, .int .u64 d2, .int .u64 d3, .bool d4] := by
  unfold didS
  split
  · split <;> exact ⟨_, _, _, _, _, rfl⟩
  · split
    · split <;> exact ⟨_, _, _, _, _, rfl⟩
    · split
      · split
        · split <;> exact ⟨_, _, _, _, _, rfl⟩
        · split <;> exact ⟨_, _, _, _, _, rfl⟩
      · exact ⟨_, _, _, _, _, rfl⟩
/-- what a whole operation alone leaves -/
def WholeS (w : World) (bs bk bw : Nat) (pl d g : Int) (v : Value) (e : Ending) (w' : World) : Prop := e = .returned v ∧ SemM w' bs bk bw pl d g ∧ Part [bw] w w'
theorem part_do {w w1 w2 : World} {bp bw : Nat} (hb : Below w.heap.size w w1) (hn : w.heap.size ≤ bp) (hP : Part [bp, bw] w1 w2) : Part [bw] w w2 :=
  Part.trans (S' := [bp, bw]) (Part.of_below hb (Nat.le_refl _) [bw]) hP (fun q hq hm => by simp at hm ⊢; omega)
set_option maxHeartbeats 1600000
theorem sdo_2 {w : World} {bs bk bw : Nat} {pl d d2 d3 g g2 g3 k an' wy' : Int} {o1 o2 : OpS} (hs : SemM w bs bk bw pl d g) (hk : k = 1 ∨ k = 2 ∨ k = 3 ∨ k = 4) (h0a : stepS pl d g (newS k) = o1) (h0b : stepD d (newS k) = d2) (h0c : stepG g (newS k) = g2) (h0d : o1.ph ≠ 9) (h1a : stepS pl d2 g2 o1 = o2) (h1b : stepD d2 o1 = d3) (h1c : stepG g2 o1 = g3) (h1d : o2.ph = 9) (ha : o2.ans = an') (hy : o2.why = wy') :
    Calls Try.prog 32 #[.pointer (some ⟨bs, 0, none⟩), .int .u8 k] w (WholeS w bs bk bw pl d3 g3 (.tuple #[.int .u64 an', .int .i64 wy'])) := by
  subst ha hy
  have HS := Lib.hid hs
  have HKK := Lib.hid hk
  have HBS := Lib.hid hs.head.lt
  have HBK := Lib.hid hs.words.head.lt
  have HBW := Lib.hid hs.words.row.lt
  have H0a := Lib.hid h0a
  have H0b := Lib.hid h0b
  have H0c := Lib.hid h0c
  have H0d : Hid (decide (o1.ph = 9) = false) := Lib.hid (by simpa using h0d)
  obtain ⟨x00, x01, x02, x03, x04, hx0⟩ := did_five_s d g (newS k)
  have HD0 := Lib.hid hx0
  clear hx0
  have H1a := Lib.hid h1a
  have H1b := Lib.hid h1b
  have H1c := Lib.hid h1c
  have H1d : Hid (decide (o2.ph = 9) = true) := Lib.hid (by simpa using h1d)
  obtain ⟨x10, x11, x12, x13, x14, hx1⟩ := did_five_s d2 g2 o1
  have HD1 := Lib.hid hx1
  clear hx1
  clear hs hk h0a h0b h0c h0d h1a h1b h1c h1d
  go_enter Try.func32, Try.ntmps32
  go_wp2_with (go_at_call 8; (with_reducible refine (sstart_op HKK.out).mono ?_); rintro e w1 ⟨bp, nx, rfl, hn, hr, hnx, hb⟩; have HN := Lib.hid hn; have HR1 := Lib.hid hr; have HX1 := Lib.hid hnx; have HB1 := Lib.hid hb; have HS1 := Lib.hid (HS.out.on hb); clear hn hr hnx hb)
  refine wp_loop_rounds 3 ?_
  have H0 : Hid (decide ((newS k).ph = 9) = false) := Lib.hid (by simp [newS])
  rw [rounds_succ]
  go_wp2_with (first
    | (go_at_call 15; (with_reducible refine (sdone_op HR1.out HX1.out).mono ?_); rw [H0.out]; rintro e wx ⟨rfl, rfl⟩)
    | (go_at_call 12; (with_reducible refine (sstep_at HR1.out HX1.out HS1.out H0a.out H0b.out H0c.out HD0.out H0d.out).mono ?_); rintro e w2 ⟨rfl, nx2, an2, wy2, hr, hnx, hs', hP⟩; have HR2 := Lib.hid hr; have HX2 := Lib.hid hnx; have HS2 := Lib.hid hs'; have HP2 := Lib.hid hP; clear hr hnx hs' hP))
  rw [rounds_succ]
  go_wp2_with (first
    | (go_at_call 15; (with_reducible refine (sdone_op HR2.out HX2.out).mono ?_); rw [H0d.out]; rintro e wx ⟨rfl, rfl⟩)
    | (go_at_call 12; (with_reducible refine (sstep_at HR2.out HX2.out HS2.out H1a.out H1b.out H1c.out HD1.out H1d.out).mono ?_); rintro e w3 ⟨rfl, nx3, an3, wy3, hr, hnx, hs', hP⟩; have HR3 := Lib.hid hr; have HX3 := Lib.hid hnx; have HS3 := Lib.hid hs'; have HP3 := Lib.hid (Part.then_ HP2.out hP); clear hr hnx hs' hP))
  rw [rounds_succ]
  go_wp2_with (first
    | (go_at_call 15; (with_reducible refine (sdone_op HR3.out HX3.out).mono ?_); rw [H1d.out]; rintro e wx ⟨rfl, rfl⟩)
    | (go_at_call 13; (with_reducible refine (sanswer_op HR3.out HX3.out).mono ?_); rintro e w9 ⟨rfl, mm, rfl⟩))
  go_ret2
  exact ⟨rfl, HS3.out.on (Below.draws (Below.refl _ _) _), (part_do HB1.out HN.out HP3.out).drewN _⟩
theorem sdo_3 {w : World} {bs bk bw : Nat} {pl d d2 d3 d4 g g2 g3 g4 k an' wy' : Int} {o1 o2 o3 : OpS} (hs : SemM w bs bk bw pl d g) (hk : k = 1 ∨ k = 2 ∨ k = 3 ∨ k = 4) (h0a : stepS pl d g (newS k) = o1) (h0b : stepD d (newS k) = d2) (h0c : stepG g (newS k) = g2) (h0d : o1.ph ≠ 9) (h1a : stepS pl d2 g2 o1 = o2) (h1b : stepD d2 o1 = d3) (h1c : stepG g2 o1 = g3) (h1d : o2.ph ≠ 9) (h2a : stepS pl d3 g3 o2 = o3) (h2b : stepD d3 o2 = d4) (h2c : stepG g3 o2 = g4) (h2d : o3.ph = 9) (ha : o3.ans = an') (hy : o3.why = wy') :
    Calls Try.prog 32 #[.pointer (some ⟨bs, 0, none⟩), .int .u8 k] w (WholeS w bs bk bw pl d4 g4 (.tuple #[.int .u64 an', .int .i64 wy'])) := by
  subst ha hy
  have HS := Lib.hid hs
  have HKK := Lib.hid hk
  have HBS := Lib.hid hs.head.lt
  have HBK := Lib.hid hs.words.head.lt
  have HBW := Lib.hid hs.words.row.lt
  have H0a := Lib.hid h0a
  have H0b := Lib.hid h0b
  have H0c := Lib.hid h0c
  have H0d : Hid (decide (o1.ph = 9) = false) := Lib.hid (by simpa using h0d)
  obtain ⟨x00, x01, x02, x03, x04, hx0⟩ := did_five_s d g (newS k)
  have HD0 := Lib.hid hx0
  clear hx0
  have H1a := Lib.hid h1a
  have H1b := Lib.hid h1b
  have H1c := Lib.hid h1c
  have H1d : Hid (decide (o2.ph = 9) = false) := Lib.hid (by simpa using h1d)
  obtain ⟨x10, x11, x12, x13, x14, hx1⟩ := did_five_s d2 g2 o1
  have HD1 := Lib.hid hx1
  clear hx1
  have H2a := Lib.hid h2a
  have H2b := Lib.hid h2b
  have H2c := Lib.hid h2c
  have H2d : Hid (decide (o3.ph = 9) = true) := Lib.hid (by simpa using h2d)
  obtain ⟨x20, x21, x22, x23, x24, hx2⟩ := did_five_s d3 g3 o2
  have HD2 := Lib.hid hx2
  clear hx2
  clear hs hk h0a h0b h0c h0d h1a h1b h1c h1d h2a h2b h2c h2d
  go_enter Try.func32, Try.ntmps32
  go_wp2_with (go_at_call 8; (with_reducible refine (sstart_op HKK.out).mono ?_); rintro e w1 ⟨bp, nx, rfl, hn, hr, hnx, hb⟩; have HN := Lib.hid hn; have HR1 := Lib.hid hr; have HX1 := Lib.hid hnx; have HB1 := Lib.hid hb; have HS1 := Lib.hid (HS.out.on hb); clear hn hr hnx hb)
  refine wp_loop_rounds 4 ?_
  have H0 : Hid (decide ((newS k).ph = 9) = false) := Lib.hid (by simp [newS])
  rw [rounds_succ]
  go_wp2_with (first
    | (go_at_call 15; (with_reducible refine (sdone_op HR1.out HX1.out).mono ?_); rw [H0.out]; rintro e wx ⟨rfl, rfl⟩)
    | (go_at_call 12; (with_reducible refine (sstep_at HR1.out HX1.out HS1.out H0a.out H0b.out H0c.out HD0.out H0d.out).mono ?_); rintro e w2 ⟨rfl, nx2, an2, wy2, hr, hnx, hs', hP⟩; have HR2 := Lib.hid hr; have HX2 := Lib.hid hnx; have HS2 := Lib.hid hs'; have HP2 := Lib.hid hP; clear hr hnx hs' hP))
  rw [rounds_succ]
  go_wp2_with (first
    | (go_at_call 15; (with_reducible refine (sdone_op HR2.out HX2.out).mono ?_); rw [H0d.out]; rintro e wx ⟨rfl, rfl⟩)
    | (go_at_call 12; (with_reducible refine (sstep_at HR2.out HX2.out HS2.out H1a.out H1b.out H1c.out HD1.out H1d.out).mono ?_); rintro e w3 ⟨rfl, nx3, an3, wy3, hr, hnx, hs', hP⟩; have HR3 := Lib.hid hr; have HX3 := Lib.hid hnx; have HS3 := Lib.hid hs'; have HP3 := Lib.hid (Part.then_ HP2.out hP); clear hr hnx hs' hP))
  rw [rounds_succ]
  go_wp2_with (first
    | (go_at_call 15; (with_reducible refine (sdone_op HR3.out HX3.out).mono ?_); rw [H1d.out]; rintro e wx ⟨rfl, rfl⟩)
    | (go_at_call 12; (with_reducible refine (sstep_at HR3.out HX3.out HS3.out H2a.out H2b.out H2c.out HD2.out H2d.out).mono ?_); rintro e w4 ⟨rfl, nx4, an4, wy4, hr, hnx, hs', hP⟩; have HR4 := Lib.hid hr; have HX4 := Lib.hid hnx; have HS4 := Lib.hid hs'; have HP4 := Lib.hid (Part.then_ HP3.out hP); clear hr hnx hs' hP))
  rw [rounds_succ]
  go_wp2_with (first
    | (go_at_call 15; (with_reducible refine (sdone_op HR4.out HX4.out).mono ?_); rw [H2d.out]; rintro e wx ⟨rfl, rfl⟩)
    | (go_at_call 13; (with_reducible refine (sanswer_op HR4.out HX4.out).mono ?_); rintro e w9 ⟨rfl, mm, rfl⟩))
  go_ret2
  exact ⟨rfl, HS4.out.on (Below.draws (Below.refl _ _) _), (part_do HB1.out HN.out HP4.out).drewN _⟩
end Go.Proofs.Ytamigipljgijlaa
