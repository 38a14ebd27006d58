/- THE WALKS of the document's semaphore: steps by kind and place. -/
import Derived.Test.YtamigipljgijlaaOa
namespace Go.Proofs.Ytamigipljgijlaa
open Go Go.RowKit
set_option maxRecDepth 100000
set_option maxHeartbeats 6400000
def rightK (k : Int) : Bool := decide (1 ≤ k) && decide (k ≤ 4)
theorem lright_any (k : Int) (w : World) : Calls Try.prog 9 #[.int .u8 k] w fun e w' => e = .returned (.bool (rightK k)) ∧ w = w' := by
  by_cases h1 : 1 ≤ k
  · have d1 : decide (1 ≤ k) = true := by simpa using h1
    obtain ⟨kb, hkb⟩ : ∃ kb, decide (k ≤ 4) = kb := ⟨_, rfl⟩
    have HKB := Lib.hid hkb
    have H1 := Lib.hid d1
    clear h1
    go_enter Try.func9, Try.ntmps9
    go_wp2
    go_ret
    exact ⟨by unfold rightK; rw [H1.out, HKB.out]; rfl, rfl⟩
  · have d1 : decide (1 ≤ k) = false := by simpa using h1
    have H1 := Lib.hid d1
    clear h1
    go_enter Try.func9, Try.ntmps9
    go_wp2
    go_ret
    exact ⟨by unfold rightK; rw [H1.out]; rfl, rfl⟩
/-- what a plain call leaves: the book is as the document's, the code's words too -/
def PlainS (w : World) (bs bk bw : Nat) (pl d g : Int) (e : Ending) (w' : World) : Prop := e = .returned (.tuple #[.agg #[.int .u64 pl, .int .u64 d, .int .u64 g], .bool true]) ∧ SemM w' bs bk bw pl d g ∧ Part [bw] w w'
section
variable {w : World} {bs bk bw : Nat} {pl d g d' g' x y k : Int}
theorem plain_leave (hs : SemM w bs bk bw pl d g) (hk : k < 0)
    (HD : ∀ w : World, Calls Try.prog 27 #[.agg #[.int .u64 pl, .int .u64 d, .int .u64 g], .int .u8 3] w fun e w' => e = .returned (.tuple #[.agg #[.int .u64 pl, .int .u64 d', .int .u64 g'], .int .u64 x, .int .i64 y]) ∧ Below w.heap.size w w')
    (HC : ∀ w : World, SemM w bs bk bw pl d g → Calls Try.prog 20 #[.pointer (some ⟨bs, 0, none⟩)] w (WholeS w bs bk bw pl d' g' (.int .i64 y))) :
    Calls Try.prog 10 #[.pointer (some ⟨bs, 0, none⟩), .agg #[.int .u64 pl, .int .u64 d, .int .u64 g], .int .i64 k] w (PlainS w bs bk bw pl d' g') := by
  have HS := Lib.hid hs
  have HDD := Lib.hid HD
  have HCC := Lib.hid HC
  have hbw := hs.words.row.lt
  have hbs := hs.head.lt
  have hbk := hs.words.head.lt
  have hd : decide (k < 0) = true := by simpa using hk
  clear hk
  clear hs HD HC
  go_enter Try.func10, Try.ntmps10
  go_wp2_with (first
    | (go_at_call 27; refine (HDD.out _).mono ?_; rintro e w1 ⟨rfl, hb1⟩; have HB1 := Lib.hid (show Below w.heap.size w w1 from (((Below.refl w.heap.size w).alloc (Nat.le_refl _) _).alloc (by simp) _).trans (hb1.mono (by simp; omega))); have HR1 := Lib.hid ((Row.new (w.alloc (.cells #[.int .u64 pl, .int .u64 d, .int .u64 g] 31)) 31 [.int .u64 0, .int .u64 0, .int .u64 0]).below hb1 (by simp)); have hl1 : w.heap.size + 2 ≤ w1.heap.size := (by have := hb1.size; simp at this; omega); clear hb1)
    | (go_at_call 20; refine (HCC.out _ (HS.out.on (HB1.out.alloc HB1.out.size _))).mono ?_; rintro e w2 ⟨rfl, hS2, hP2⟩; have HS2 := Lib.hid hS2; have HP2 := Lib.hid hP2; have hr1 := (HR1.out.alloc (.cells #[.int .u64 pl, .int .u64 d', .int .u64 g'] 31)).part hP2 (by simp; omega); have hr2 := (Row.new w1 31 [.int .u64 pl, .int .u64 d', .int .u64 g']).part hP2 (by simp; omega); simp only [World.size_alloc] at hr1; obtain ⟨c0, c1, c2⟩ := hr2.three3; obtain ⟨r0, r1, r2⟩ := hr1.three3; have rf := hr1.free; have rl := hr1.lt; have cl := hr2.lt; clear hS2 hP2 hr1 hr2))
  refine bodyPost_ret (v := .tuple #[.agg #[.int .u64 pl, .int .u64 d', .int .u64 g'], .bool true]) (by simp [results, Try.results10, go_sem, r0, r1, r2]) rfl ⟨rfl, ?_, ?_⟩
  · have hP : ∀ w3 : World, Part [w.heap.size + 1] w2 w3 → SemM w3 bs bk bw pl d' g' := fun w3 hP => ⟨HS2.out.head.part hP (by simp; omega), HS2.out.words.part hP (by simp; omega) (by simp; omega)⟩
    refine hP _ ?_
    repeat (first | (with_reducible exact Part.refl _ _) | (with_reducible refine Part.set ?_ (by simp) _) | (with_reducible refine Part.drew ?_))
  · have hA : Part [bw] w w2 := (Part.of_below (HB1.out.alloc HB1.out.size _) (Nat.le_refl _) [bw]).then_ HP2.out
    repeat (first | (with_reducible exact hA) | (with_reducible refine Part.set ?_ (fun h => absurd h (by simp)) _) | (with_reducible refine Part.drew ?_))
theorem plain_try (hs : SemM w bs bk bw pl d g) (hk : ¬ k < 0) (h2 : k.tmod 2 = 0)
    (HD : ∀ w : World, Calls Try.prog 27 #[.agg #[.int .u64 pl, .int .u64 d, .int .u64 g], .int .u8 2] w fun e w' => e = .returned (.tuple #[.agg #[.int .u64 pl, .int .u64 d', .int .u64 g'], .int .u64 x, .int .i64 y]) ∧ Below w.heap.size w w')
    (HC : ∀ w : World, SemM w bs bk bw pl d g → Calls Try.prog 21 #[.pointer (some ⟨bs, 0, none⟩)] w (WholeS w bs bk bw pl d' g' (.tuple #[.int .u64 x, .int .i64 y]))) :
    Calls Try.prog 10 #[.pointer (some ⟨bs, 0, none⟩), .agg #[.int .u64 pl, .int .u64 d, .int .u64 g], .int .i64 k] w (PlainS w bs bk bw pl d' g') := by
  have HS := Lib.hid hs
  have HDD := Lib.hid HD
  have HCC := Lib.hid HC
  have hbw := hs.words.row.lt
  have hbs := hs.head.lt
  have hbk := hs.words.head.lt
  have hd : decide (k < 0) = false := by simpa using hk
  clear hk
  clear hs HD HC
  go_enter Try.func10, Try.ntmps10
  go_wp2_with (first
    | (go_at_call 27; refine (HDD.out _).mono ?_; rintro e w1 ⟨rfl, hb1⟩; have HB1 := Lib.hid (show Below w.heap.size w w1 from (((Below.refl w.heap.size w).alloc (Nat.le_refl _) _).alloc (by simp) _).trans (hb1.mono (by simp; omega))); have HR1 := Lib.hid ((Row.new (w.alloc (.cells #[.int .u64 pl, .int .u64 d, .int .u64 g] 31)) 31 [.int .u64 0, .int .u64 0, .int .u64 0]).below hb1 (by simp)); have hl1 : w.heap.size + 2 ≤ w1.heap.size := (by have := hb1.size; simp at this; omega); clear hb1)
    | (go_at_call 21; refine (HCC.out _ (HS.out.on (HB1.out.alloc HB1.out.size _))).mono ?_; rintro e w2 ⟨rfl, hS2, hP2⟩; have HS2 := Lib.hid hS2; have HP2 := Lib.hid hP2; have hr1 := (HR1.out.alloc (.cells #[.int .u64 pl, .int .u64 d', .int .u64 g'] 31)).part hP2 (by simp; omega); have hr2 := (Row.new w1 31 [.int .u64 pl, .int .u64 d', .int .u64 g']).part hP2 (by simp; omega); simp only [World.size_alloc] at hr1; obtain ⟨c0, c1, c2⟩ := hr2.three3; obtain ⟨r0, r1, r2⟩ := hr1.three3; have rf := hr1.free; have rl := hr1.lt; have cl := hr2.lt; clear hS2 hP2 hr1 hr2))
  refine bodyPost_ret (v := .tuple #[.agg #[.int .u64 pl, .int .u64 d', .int .u64 g'], .bool true]) (by simp [results, Try.results10, go_sem, r0, r1, r2]) rfl ⟨rfl, ?_, ?_⟩
  · have hP : ∀ w3 : World, Part [w.heap.size + 1] w2 w3 → SemM w3 bs bk bw pl d' g' := fun w3 hP => ⟨HS2.out.head.part hP (by simp; omega), HS2.out.words.part hP (by simp; omega) (by simp; omega)⟩
    refine hP _ ?_
    repeat (first | (with_reducible exact Part.refl _ _) | (with_reducible refine Part.set ?_ (by simp) _) | (with_reducible refine Part.drew ?_))
  · have hA : Part [bw] w w2 := (Part.of_below (HB1.out.alloc HB1.out.size _) (Nat.le_refl _) [bw]).then_ HP2.out
    repeat (first | (with_reducible exact hA) | (with_reducible refine Part.set ?_ (fun h => absurd h (by simp)) _) | (with_reducible refine Part.drew ?_))
theorem plain_inside (hs : SemM w bs bk bw pl d g) (hk : ¬ k < 0) (h2 : ¬ k.tmod 2 = 0)
    (HD : ∀ w : World, Calls Try.prog 27 #[.agg #[.int .u64 pl, .int .u64 d, .int .u64 g], .int .u8 4] w fun e w' => e = .returned (.tuple #[.agg #[.int .u64 pl, .int .u64 d', .int .u64 g'], .int .u64 x, .int .i64 y]) ∧ Below w.heap.size w w')
    (HC : ∀ w : World, SemM w bs bk bw pl d g → Calls Try.prog 19 #[.pointer (some ⟨bs, 0, none⟩)] w (WholeS w bs bk bw pl d' g' (.tuple #[.int .u64 x, .int .i64 y]))) :
    Calls Try.prog 10 #[.pointer (some ⟨bs, 0, none⟩), .agg #[.int .u64 pl, .int .u64 d, .int .u64 g], .int .i64 k] w (PlainS w bs bk bw pl d' g') := by
  have HS := Lib.hid hs
  have HDD := Lib.hid HD
  have HCC := Lib.hid HC
  have hbw := hs.words.row.lt
  have hbs := hs.head.lt
  have hbk := hs.words.head.lt
  have hd : decide (k < 0) = false := by simpa using hk
  obtain ⟨r, hr⟩ : ∃ r, k.tmod 2 = r := ⟨_, rfl⟩
  have hrb : (r == 0) = false := by rw [← hr]; simpa using h2
  clear hk h2
  clear hs HD HC
  go_enter Try.func10, Try.ntmps10
  go_wp2_with (first
    | (go_at_call 27; refine (HDD.out _).mono ?_; rintro e w1 ⟨rfl, hb1⟩; have HB1 := Lib.hid (show Below w.heap.size w w1 from (((Below.refl w.heap.size w).alloc (Nat.le_refl _) _).alloc (by simp) _).trans (hb1.mono (by simp; omega))); have HR1 := Lib.hid ((Row.new (w.alloc (.cells #[.int .u64 pl, .int .u64 d, .int .u64 g] 31)) 31 [.int .u64 0, .int .u64 0, .int .u64 0]).below hb1 (by simp)); have hl1 : w.heap.size + 2 ≤ w1.heap.size := (by have := hb1.size; simp at this; omega); clear hb1)
    | (go_at_call 19; refine (HCC.out _ (HS.out.on (HB1.out.alloc HB1.out.size _))).mono ?_; rintro e w2 ⟨rfl, hS2, hP2⟩; have HS2 := Lib.hid hS2; have HP2 := Lib.hid hP2; have hr1 := (HR1.out.alloc (.cells #[.int .u64 pl, .int .u64 d', .int .u64 g'] 31)).part hP2 (by simp; omega); have hr2 := (Row.new w1 31 [.int .u64 pl, .int .u64 d', .int .u64 g']).part hP2 (by simp; omega); simp only [World.size_alloc] at hr1; obtain ⟨c0, c1, c2⟩ := hr2.three3; obtain ⟨r0, r1, r2⟩ := hr1.three3; have rf := hr1.free; have rl := hr1.lt; have cl := hr2.lt; clear hS2 hP2 hr1 hr2))
  refine bodyPost_ret (v := .tuple #[.agg #[.int .u64 pl, .int .u64 d', .int .u64 g'], .bool true]) (by simp [results, Try.results10, go_sem, r0, r1, r2]) rfl ⟨rfl, ?_, ?_⟩
  · have hP : ∀ w3 : World, Part [w.heap.size + 1] w2 w3 → SemM w3 bs bk bw pl d' g' := fun w3 hP => ⟨HS2.out.head.part hP (by simp; omega), HS2.out.words.part hP (by simp; omega) (by simp; omega)⟩
    refine hP _ ?_
    repeat (first | (with_reducible exact Part.refl _ _) | (with_reducible refine Part.set ?_ (by simp) _) | (with_reducible refine Part.drew ?_))
  · have hA : Part [bw] w w2 := (Part.of_below (HB1.out.alloc HB1.out.size _) (Nat.le_refl _) [bw]).then_ HP2.out
    repeat (first | (with_reducible exact hA) | (with_reducible refine Part.set ?_ (fun h => absurd h (by simp)) _) | (with_reducible refine Part.drew ?_))
end
theorem alone2 {pl k d g d1 g1 d2 g2 : Int} {o1 o2 : OpS} (h0 : stepS pl d g (newS k) = o1 ∧ stepD d (newS k) = d1 ∧ stepG g (newS k) = g1) (h1 : stepS pl d1 g1 o1 = o2 ∧ stepD d1 o1 = d2 ∧ stepG g1 o1 = g2) (l1 : o1.ph = 1) (l2 : o2.ph = 9) :
    Alone pl k 2 (fun i => if i = 0 then d else if i = 1 then d1 else d2) (fun i => if i = 0 then g else if i = 1 then g1 else g2) (fun i => if i = 0 then newS k else if i = 1 then o1 else o2) := by
  refine ⟨fun i hi => ?_, fun i hi => ?_, by simpa using l2, by omega, rfl⟩
  · rcases (show i = 0 ∨ i = 1 by omega) with rfl | rfl
    · exact h0
    · exact h1
  · rcases (show i = 0 ∨ i = 1 by omega) with rfl | rfl
    · rfl
    · exact l1
theorem alone3 {pl k d g d1 g1 d2 g2 d3 g3 : Int} {o1 o2 o3 : OpS} (h0 : stepS pl d g (newS k) = o1 ∧ stepD d (newS k) = d1 ∧ stepG g (newS k) = g1) (h1 : stepS pl d1 g1 o1 = o2 ∧ stepD d1 o1 = d2 ∧ stepG g1 o1 = g2) (h2 : stepS pl d2 g2 o2 = o3 ∧ stepD d2 o2 = d3 ∧ stepG g2 o2 = g3) (l1 : o1.ph = 1) (l2 : o2.ph = 2) (l3 : o3.ph = 9) :
    Alone pl k 3 (fun i => if i = 0 then d else if i = 1 then d1 else if i = 2 then d2 else d3) (fun i => if i = 0 then g else if i = 1 then g1 else if i = 2 then g2 else g3) (fun i => if i = 0 then newS k else if i = 1 then o1 else if i = 2 then o2 else o3) := by
  refine ⟨fun i hi => ?_, fun i hi => ?_, by simpa using l3, by omega, rfl⟩
  · rcases (show i = 0 ∨ i = 1 ∨ i = 2 by omega) with rfl | rfl | rfl
    · exact h0
    · exact h1
    · exact h2
  · rcases (show i = 0 ∨ i = 1 ∨ i = 2 by omega) with rfl | rfl | rfl
    · rfl
    · exact l1
    · exact l2
section
variable {w : World} {bs bk bw : Nat} {pl d g k : Int}
theorem plain_any (hs : SemM w bs bk bw pl d g) (k : Int) : ∃ d' g', Calls Try.prog 10 #[.pointer (some ⟨bs, 0, none⟩), .agg #[.int .u64 pl, .int .u64 d, .int .u64 g], .int .i64 k] w (PlainS w bs bk bw pl d' g') := by
  by_cases hk : k < 0
  · by_cases h : d ≤ g
    · have A := alone2 (pl := pl) (k := 3) (d := d) (g := g) (d1 := d) (g1 := g) (d2 := d) (g2 := g) (o1 := ⟨3, 1, g, 0, 0, 0⟩) (o2 := ⟨3, 9, g, 0, 0, 70⟩) (by simp [stepS, stepD, stepG, newS]) (by simp [stepS, stepD, stepG, h]) rfl rfl
      exact ⟨d, g, plain_leave hs hk (fun w => rdo_alone A (by omega) w) (fun w hs => sleave_free hs h)⟩
    · have A := alone3 (pl := pl) (k := 3) (d := d) (g := g) (d1 := d) (g1 := g) (d2 := d) (g2 := g) (d3 := d) (g3 := up g) (o1 := ⟨3, 1, g, 0, 0, 0⟩) (o2 := ⟨3, 2, g, d, 0, 0⟩) (o3 := ⟨3, 9, g, d, up g, 0⟩) (by simp [stepS, stepD, stepG, newS]) (by simp [stepS, stepD, stepG, h]) (by simp [stepS, stepD, stepG]) rfl rfl rfl
      exact ⟨d, up g, plain_leave hs hk (fun w => rdo_alone A (by omega) w) (fun w hs => sleave_ok hs (by omega))⟩
  · by_cases h2 : k.tmod 2 = 0
    · by_cases h : IntKind.u64.wrap (pl + g) ≤ d
      · have A := alone2 (pl := pl) (k := 2) (d := d) (g := g) (d1 := d) (g1 := g) (d2 := d) (g2 := g) (o1 := ⟨2, 1, g, 0, 0, 0⟩) (o2 := ⟨2, 9, g, 0, 0, 51⟩) (by simp [stepS, stepD, stepG, newS]) (by simp [stepS, stepD, stepG, h]) rfl rfl
        exact ⟨d, g, plain_try hs hk h2 (fun w => rdo_alone A (by omega) w) (fun w hs => stry_full hs h)⟩
      · have A := alone3 (pl := pl) (k := 2) (d := d) (g := g) (d1 := d) (g1 := g) (d2 := d) (g2 := g) (d3 := up d) (g3 := g) (o1 := ⟨2, 1, g, 0, 0, 0⟩) (o2 := ⟨2, 2, g, d, 0, 0⟩) (o3 := ⟨2, 9, g, d, d, 0⟩) (by simp [stepS, stepD, stepG, newS]) (by simp [stepS, stepD, stepG, h]) (by simp [stepS, stepD, stepG]) rfl rfl rfl
        exact ⟨up d, g, plain_try hs hk h2 (fun w => rdo_alone A (by omega) w) (fun w hs => stry_ok hs (by omega))⟩
    · have A := alone2 (pl := pl) (k := 4) (d := d) (g := g) (d1 := d) (g1 := g) (d2 := d) (g2 := g) (o1 := ⟨4, 1, g, 0, 0, 0⟩) (o2 := ⟨4, 9, g, 0, IntKind.u64.wrap (min d (IntKind.u64.wrap (pl + g)) - g), 0⟩) (by simp [stepS, stepD, stepG, newS]) (by simp [stepS, stepD, stepG]) rfl rfl
      exact ⟨d, g, plain_inside hs hk h2 (fun w => rdo_alone A (by omega) w) (fun w hs => sinside_any hs)⟩
end
end Go.Proofs.Ytamigipljgijlaa
