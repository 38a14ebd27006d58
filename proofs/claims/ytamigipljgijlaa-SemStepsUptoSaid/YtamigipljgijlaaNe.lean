/- AN OPERATION OF A SEMAPHORE, IN PLAIN WORDS; Step as one contract. -/
import Derived.Test.YtamigipljgijlaaNd
namespace Go.Proofs.Ytamigipljgijlaa
open Go Go.RowKit
set_option maxRecDepth 100000
/-- k: 1 enter, 2 try, 3 leave, 4 inside; ph: the number of the next action, 9: it has ended; a: the ticket, or what was given back; b: what was drawn -/
structure OpS where
  k : Int
  ph : Nat
  a : Int
  b : Int
  ans : Int
  why : Int
def newS (k : Int) : OpS := ⟨k, 0, 0, 0, 0, 0⟩
def up (x : Int) : Int := IntKind.u64.wrap (x + 1)
def stepS (pl d g : Int) (o : OpS) : OpS :=
  if o.ph = 0 then (if o.k = 1 then { o with ph := 1, a := d } else { o with ph := 1, a := g })
  else if o.ph = 1 then
    if o.k = 1 then (if o.a < IntKind.u64.wrap (pl + g) then { o with ph := 9, ans := o.a, why := 0 } else o)
    else if o.k = 2 then (if IntKind.u64.wrap (pl + o.a) ≤ d then { o with ph := 9, ans := 0, why := 51 } else { o with ph := 2, b := d })
    else if o.k = 3 then (if d ≤ o.a then { o with ph := 9, ans := 0, why := 70 } else { o with ph := 2, b := d })
    else { o with ph := 9, ans := IntKind.u64.wrap (min d (IntKind.u64.wrap (pl + o.a)) - o.a), why := 0 }
  else if o.ph = 2 then
    if o.k = 2 then (if d = o.b then { o with ph := 9, ans := o.b, why := 0 } else { o with ph := 0 })
    else (if g = o.a then { o with ph := 9, ans := up o.a, why := 0 } else { o with ph := 0 })
  else o
def stepD (d : Int) (o : OpS) : Int := if o.ph = 0 ∧ o.k = 1 then up d else if o.ph = 2 ∧ o.k = 2 ∧ d = o.b then up d else d
def stepG (g : Int) (o : OpS) : Int := if o.ph = 2 ∧ o.k = 3 ∧ g = o.a then up g else g
def didS (d g : Int) (o : OpS) : Array Value :=
  if o.ph = 0 then (if o.k = 1 then #[.int .u8 3, .int .i64 0, .int .u64 d, .int .u64 (up d), .bool true] else #[.int .u8 1, .int .i64 1, .int .u64 g, .int .u64 g, .bool true])
  else if o.ph = 1 then (if o.k = 1 then #[.int .u8 1, .int .i64 1, .int .u64 g, .int .u64 g, .bool true] else #[.int .u8 1, .int .i64 0, .int .u64 d, .int .u64 d, .bool true])
  else if o.ph = 2 then
    if o.k = 2 then (if d = o.b then #[.int .u8 5, .int .i64 0, .int .u64 d, .int .u64 (up d), .bool true] else #[.int .u8 5, .int .i64 0, .int .u64 d, .int .u64 d, .bool false])
    else (if g = o.a then #[.int .u8 5, .int .i64 1, .int .u64 g, .int .u64 (up g), .bool true] else #[.int .u8 5, .int .i64 1, .int .u64 g, .int .u64 g, .bool false])
  else #[.int .u8 0, .int .i64 0, .int .u64 0, .int .u64 0, .bool false]
/-- an operation that may be under way -/
def OkS (o : OpS) : Prop := o.ph = 9 ∨ ((o.k = 1 ∨ o.k = 2 ∨ o.k = 3 ∨ o.k = 4) ∧ (o.ph = 0 ∨ o.ph = 1 ∨ (o.ph = 2 ∧ (o.k = 2 ∨ o.k = 3))))
/-- what comes next -/
def NextS (bp : Nat) (o : OpS) (w : World) (nx : Value) (an wy : Int) : Prop :=
  (an = o.ans ∧ wy = o.why) ∧
  ((o.ph = 9 ∧ nx = .nilFunc) ∨ (o.ph = 0 ∧ o.k = 1 ∧ EnterM w bp nx) ∨ (o.ph = 1 ∧ o.k = 1 ∧ WaitM w bp nx o.a)
   ∨ (o.ph = 0 ∧ o.k = 2 ∧ LookM w bp nx 37) ∨ (o.ph = 1 ∧ o.k = 2 ∧ SeenM w bp nx 37 o.a) ∨ (o.ph = 2 ∧ o.k = 2 ∧ RaiseM w bp nx 0 o.b o.b (.func (.func 24) #[.pointer (some ⟨bp, 0, none⟩)] #[]))
   ∨ (o.ph = 0 ∧ o.k = 3 ∧ LookM w bp nx 41) ∨ (o.ph = 1 ∧ o.k = 3 ∧ SeenM w bp nx 41 o.a) ∨ (o.ph = 2 ∧ o.k = 3 ∧ RaiseM w bp nx 1 o.a (up o.a) (.func (.func 25) #[.pointer (some ⟨bp, 0, none⟩)] #[]))
   ∨ (o.ph = 0 ∧ o.k = 4 ∧ LookM w bp nx 42) ∨ (o.ph = 1 ∧ o.k = 4 ∧ SeenM w bp nx 42 o.a))
section
variable {S : List Nat} {w w1 : World} {bp : Nat} {nx v : Value} {c saw ans gave : Int} {f : FuncId}
theorem LookM.stay (h : LookM w bp nx f) (hP : Part S w w1) (hS : Hard S w) : LookM w1 bp nx f := by
  obtain ⟨b1, b2, b3, h1, h2, h3, h4⟩ := h
  exact ⟨b1, b2, b3, h1.stay hP hS, h2.stay hP hS (by decide) (by decide) (by decide), h3.stay hP hS (by decide) (by decide) (by decide), h4.stay hP hS (by decide) (by decide) (by decide)⟩
theorem SeenM.stay (h : SeenM w bp nx f gave) (hP : Part S w w1) (hS : Hard S w) : SeenM w1 bp nx f gave := by
  obtain ⟨b1, b2, b3, h1, h2, h3, h4⟩ := h
  exact ⟨b1, b2, b3, h1.stay hP hS, h2.stay hP hS (by decide) (by decide) (by decide), h3.stay hP hS (by decide) (by decide) (by decide), h4.stay hP hS (by decide) (by decide) (by decide)⟩
theorem RaiseM.stay (h : RaiseM w bp nx c saw ans v) (hP : Part S w w1) (hS : Hard S w) : RaiseM w1 bp nx c saw ans v := by
  obtain ⟨b1, b2, b3, h1, h2, h3, h4⟩ := h
  exact ⟨b1, b2, b3, h1.stay hP hS, h2.stay hP hS (by decide) (by decide) (by decide), h3.stay hP hS (by decide) (by decide) (by decide), h4.stay hP hS (by decide) (by decide) (by decide)⟩
theorem NextS.stays {o : OpS} : Stays (NextS bp o) := fun w1 w2 S nx an wy h hP hS => by
  obtain ⟨h0, h⟩ := h
  refine ⟨h0, ?_⟩
  rcases h with ⟨a, h⟩ | ⟨a, b, h⟩ | ⟨a, b, h⟩ | ⟨a, b, h⟩ | ⟨a, b, h⟩ | ⟨a, b, h⟩ | ⟨a, b, h⟩ | ⟨a, b, h⟩ | ⟨a, b, h⟩ | ⟨a, b, h⟩ | ⟨a, b, h⟩
  · exact .inl ⟨a, h⟩
  · exact .inr (.inl ⟨a, b, h.stay hP hS⟩)
  · exact .inr (.inr (.inl ⟨a, b, h.stay hP hS⟩))
  · exact .inr (.inr (.inr (.inl ⟨a, b, h.stay hP hS⟩)))
  · exact .inr (.inr (.inr (.inr (.inl ⟨a, b, h.stay hP hS⟩))))
  · exact .inr (.inr (.inr (.inr (.inr (.inl ⟨a, b, h.stay hP hS⟩)))))
  · exact .inr (.inr (.inr (.inr (.inr (.inr (.inl ⟨a, b, h.stay hP hS⟩))))))
  · exact .inr (.inr (.inr (.inr (.inr (.inr (.inr (.inl ⟨a, b, h.stay hP hS⟩)))))))
  · exact .inr (.inr (.inr (.inr (.inr (.inr (.inr (.inr (.inl ⟨a, b, h.stay hP hS⟩))))))))
  · exact .inr (.inr (.inr (.inr (.inr (.inr (.inr (.inr (.inr (.inl ⟨a, b, h.stay hP hS⟩)))))))))
  · exact .inr (.inr (.inr (.inr (.inr (.inr (.inr (.inr (.inr (.inr ⟨a, b, h.stay hP hS⟩)))))))))
theorem LoadM.fn (h : LoadM w bp nx c v) : ∃ f cs, nx = .func (.func f) #[] cs := by
  obtain ⟨_, ⟨b1, b2, b3, rfl, _⟩, _⟩ := h
  exact ⟨_, _, rfl⟩
theorem NextS.fn {o : OpS} {an wy : Int} (h : NextS bp o w nx an wy) (hp : o.ph ≠ 9) : ∃ f cs, nx = .func (.func f) #[] cs := by
  obtain ⟨h0, h⟩ := h
  rcases h with ⟨a, h⟩ | ⟨a, b, h⟩ | ⟨a, b, h⟩ | ⟨a, b, h⟩ | ⟨a, b, h⟩ | ⟨a, b, h⟩ | ⟨a, b, h⟩ | ⟨a, b, h⟩ | ⟨a, b, h⟩ | ⟨a, b, h⟩ | ⟨a, b, h⟩
  · exact absurd a hp
  · obtain ⟨_, ⟨b1, b2, b3, rfl, _⟩, _⟩ := h; exact ⟨_, _, rfl⟩
  · obtain ⟨_, _, h, _⟩ := h; exact h.fn
  · obtain ⟨_, _, _, h, _⟩ := h; exact h.fn
  · obtain ⟨_, _, _, h, _⟩ := h; exact h.fn
  · obtain ⟨_, _, _, ⟨b1, b2, b3, rfl, _⟩, _⟩ := h; exact ⟨_, _, rfl⟩
  · obtain ⟨_, _, _, h, _⟩ := h; exact h.fn
  · obtain ⟨_, _, _, h, _⟩ := h; exact h.fn
  · obtain ⟨_, _, _, ⟨b1, b2, b3, rfl, _⟩, _⟩ := h; exact ⟨_, _, rfl⟩
  · obtain ⟨_, _, _, h, _⟩ := h; exact h.fn
  · obtain ⟨_, _, _, h, _⟩ := h; exact h.fn
theorem NextS.nil_ {o : OpS} {an wy : Int} (h : NextS bp o w nx an wy) (hp : o.ph = 9) : nx = .nilFunc := by
  obtain ⟨h0, h⟩ := h
  rcases h with ⟨a, h⟩ | ⟨a, b, h⟩ | ⟨a, b, h⟩ | ⟨a, b, h⟩ | ⟨a, b, h⟩ | ⟨a, b, h⟩ | ⟨a, b, h⟩ | ⟨a, b, h⟩ | ⟨a, b, h⟩ | ⟨a, b, h⟩ | ⟨a, b, h⟩
  · exact h
  all_goals omega
end
theorem wrap_up (x : Int) : IntKind.u64.wrap (x + 1) = up x := rfl
/-- a box stays behind an action -/
theorem Row.act {w wc : World} {bw b : Nat} {t : TypeId} {l l' : List Value} (h : Row w b t l) (hw : Row w bw 97 l') (ht : t ≠ 97) (hP : Part [bw] w wc) : Row wc b t l := h.part hP (by simpa using h.ne hw ht)
theorem up_u64 (x : Int) : U64 (up x) := u64_wrap _
section
variable {w : World} {bk bw : Nat} {d g x y : Int}
theorem mdo_hit0 (h : Words w bk bw [d, g]) (hy : U64 y) : Calls Try.prog 44 #[.pointer (some ⟨bk, 0, none⟩), .agg #[.int .u8 5, .int .i64 0, .int .u64 d, .int .u64 y]] w (Acted w bk bw [y, g] (.tuple #[.agg #[.int .u8 5, .int .i64 0, .int .u64 d, .int .u64 y, .bool true], .int .i64 0])) := do_hit (i := 0) h rfl hy
theorem mdo_hit1 (h : Words w bk bw [d, g]) (hy : U64 y) : Calls Try.prog 44 #[.pointer (some ⟨bk, 0, none⟩), .agg #[.int .u8 5, .int .i64 1, .int .u64 g, .int .u64 y]] w (Acted w bk bw [d, y] (.tuple #[.agg #[.int .u8 5, .int .i64 1, .int .u64 g, .int .u64 y, .bool true], .int .i64 0])) := do_hit (i := 1) h rfl hy
theorem mdo_miss0 (h : Words w bk bw [d, g]) (hne : ¬ d = x) : Calls Try.prog 44 #[.pointer (some ⟨bk, 0, none⟩), .agg #[.int .u8 5, .int .i64 0, .int .u64 x, .int .u64 y]] w (Acted w bk bw [d, g] (.tuple #[.agg #[.int .u8 5, .int .i64 0, .int .u64 d, .int .u64 d, .bool false], .int .i64 0])) := do_miss (i := 0) h rfl hne
theorem mdo_miss1 (h : Words w bk bw [d, g]) (hne : ¬ g = x) : Calls Try.prog 44 #[.pointer (some ⟨bk, 0, none⟩), .agg #[.int .u8 5, .int .i64 1, .int .u64 x, .int .u64 y]] w (Acted w bk bw [d, g] (.tuple #[.agg #[.int .u8 5, .int .i64 1, .int .u64 g, .int .u64 g, .bool false], .int .i64 0])) := do_miss (i := 1) h rfl hne
end
section
variable {w : World} {bp bs bk bw : Nat} {nx : Value} {an wy pl d g : Int}
theorem sstep_enter (y : Int) (hp : Row w bp 69 (pendM bs nx an wy)) (hs : SemM w bs bk bw pl d g) (hn : EnterM w bp nx) :
    Calls Try.prog 12 #[.pointer (some ⟨bp, 0, none⟩)] w (StepTo w bp bs bk bw pl (up d) g #[.int .u8 3, .int .i64 0, .int .u64 d, .int .u64 (up d), .bool true] false (NextS bp ⟨1, 1, d, y, an, wy⟩)) := by
  obtain ⟨b, ⟨b1, b2, b3, rfl, h1, h2, h3⟩, h4⟩ := hn
  refine step_fn hp hs (fun o => (act1_enter (hp.alloc o) (hs.alloc o) (h1.alloc o) (h2.alloc o) (h3.alloc o) (h4.alloc o)).mono ?_) NextS.stays (fun w' nx' an' wy' h => h.fn (by simp))
  rintro e w' ⟨he, nx', hr, hw, hs', hP⟩
  exact ⟨he, nx', an, wy, hr, ⟨⟨rfl, rfl⟩, .inr (.inr (.inl ⟨rfl, rfl, hw⟩))⟩, hs', hP⟩
theorem sstep_wait_no (y : Int) (hp : Row w bp 69 (pendM bs nx an wy)) (hs : SemM w bs bk bw pl d g) {tk : Int} (hn : WaitM w bp nx tk) (hlt : decide (tk < IntKind.u64.wrap (pl + g)) = false) :
    Calls Try.prog 12 #[.pointer (some ⟨bp, 0, none⟩)] w (StepTo w bp bs bk bw pl d g #[.int .u8 1, .int .i64 1, .int .u64 g, .int .u64 g, .bool true] false (NextS bp ⟨1, 1, tk, y, an, wy⟩)) := by
  obtain ⟨b5, b6, ⟨b, ⟨b1, b2, b3, rfl, h1, h2, h3⟩, h4⟩, h5, h6⟩ := hn
  refine step_fn hp hs (fun o => act1_load (hp.alloc o) (hs.alloc o) (h1.alloc o) (h2.alloc o) (h3.alloc o) (fun w0 h => mdo_load1 h) (fun wc hP hp' hs' => load1_wait ((h4.alloc o).act (hs.alloc o).words.row (by decide) hP) (fun o' => (wait1_no (hp'.alloc o') (hs'.alloc o') (((h5.alloc o).act (hs.alloc o).words.row (by decide) hP).alloc o') (((h6.alloc o).act (hs.alloc o).words.row (by decide) hP).alloc o') hlt).mono ?_)) NextS.stays) NextS.stays (fun w' nx' an' wy' h => h.fn (by simp))
  rintro e w' ⟨he, nx', hr, hw, hP'⟩
  exact ⟨he, nx', _, _, hr, ⟨⟨rfl, rfl⟩, .inr (.inr (.inl ⟨rfl, rfl, hw⟩))⟩, hP'⟩
theorem sstep_wait_yes (y : Int) (hp : Row w bp 69 (pendM bs nx an wy)) (hs : SemM w bs bk bw pl d g) {tk : Int} (hn : WaitM w bp nx tk) (hlt : decide (tk < IntKind.u64.wrap (pl + g)) = true) :
    Calls Try.prog 12 #[.pointer (some ⟨bp, 0, none⟩)] w (StepTo w bp bs bk bw pl d g #[.int .u8 1, .int .i64 1, .int .u64 g, .int .u64 g, .bool true] true (NextS bp ⟨1, 9, tk, y, tk, 0⟩)) := by
  obtain ⟨b5, b6, ⟨b, ⟨b1, b2, b3, rfl, h1, h2, h3⟩, h4⟩, h5, h6⟩ := hn
  refine step_nil hp hs (fun o => act1_load (hp.alloc o) (hs.alloc o) (h1.alloc o) (h2.alloc o) (h3.alloc o) (fun w0 h => mdo_load1 h) (fun wc hP hp' hs' => load1_wait ((h4.alloc o).act (hs.alloc o).words.row (by decide) hP) (fun o' => (wait1_yes (hp'.alloc o') (hs'.alloc o') (((h5.alloc o).act (hs.alloc o).words.row (by decide) hP).alloc o') (((h6.alloc o).act (hs.alloc o).words.row (by decide) hP).alloc o') hlt).mono ?_)) NextS.stays) NextS.stays (fun w' nx' an' wy' h => h.nil_ rfl)
  rintro e w' ⟨he, hr, hP'⟩
  exact ⟨he, _, _, _, hr, ⟨⟨rfl, rfl⟩, .inl ⟨rfl, rfl⟩⟩, hP'⟩
theorem sstep_try0 (y : Int) (hp : Row w bp 69 (pendM bs nx an wy)) (hs : SemM w bs bk bw pl d g) (hn : LookM w bp nx 37) :
    Calls Try.prog 12 #[.pointer (some ⟨bp, 0, none⟩)] w (StepTo w bp bs bk bw pl d g #[.int .u8 1, .int .i64 1, .int .u64 g, .int .u64 g, .bool true] false (NextS bp ⟨2, 1, g, y, an, wy⟩)) := by
  obtain ⟨b5, b6, b7, ⟨b, ⟨b1, b2, b3, rfl, h1, h2, h3⟩, h4⟩, h5, h6, h7⟩ := hn
  refine step_fn hp hs (fun o => act1_load (hp.alloc o) (hs.alloc o) (h1.alloc o) (h2.alloc o) (h3.alloc o) (fun w0 h => mdo_load1 h) (fun wc hP hp' hs' => load1_look ((h4.alloc o).act (hs.alloc o).words.row (by decide) hP) (fun o' => (look1_any (hp'.alloc o') (((h5.alloc o).act (hs.alloc o).words.row (by decide) hP).alloc o') (((h6.alloc o).act (hs.alloc o).words.row (by decide) hP).alloc o') (((h7.alloc o).act (hs.alloc o).words.row (by decide) hP).alloc o')).mono ?_)) NextS.stays) NextS.stays (fun w' nx' an' wy' h => h.fn (by simp))
  rintro e w' ⟨he, nx', hr, hw, hP'⟩
  exact ⟨he, nx', _, _, hr, ⟨⟨rfl, rfl⟩, .inr (.inr (.inr (.inr (.inl ⟨rfl, rfl, hw⟩))))⟩, hP'⟩
theorem sstep_leave0 (y : Int) (hp : Row w bp 69 (pendM bs nx an wy)) (hs : SemM w bs bk bw pl d g) (hn : LookM w bp nx 41) :
    Calls Try.prog 12 #[.pointer (some ⟨bp, 0, none⟩)] w (StepTo w bp bs bk bw pl d g #[.int .u8 1, .int .i64 1, .int .u64 g, .int .u64 g, .bool true] false (NextS bp ⟨3, 1, g, y, an, wy⟩)) := by
  obtain ⟨b5, b6, b7, ⟨b, ⟨b1, b2, b3, rfl, h1, h2, h3⟩, h4⟩, h5, h6, h7⟩ := hn
  refine step_fn hp hs (fun o => act1_load (hp.alloc o) (hs.alloc o) (h1.alloc o) (h2.alloc o) (h3.alloc o) (fun w0 h => mdo_load1 h) (fun wc hP hp' hs' => load1_look ((h4.alloc o).act (hs.alloc o).words.row (by decide) hP) (fun o' => (look1_any (hp'.alloc o') (((h5.alloc o).act (hs.alloc o).words.row (by decide) hP).alloc o') (((h6.alloc o).act (hs.alloc o).words.row (by decide) hP).alloc o') (((h7.alloc o).act (hs.alloc o).words.row (by decide) hP).alloc o')).mono ?_)) NextS.stays) NextS.stays (fun w' nx' an' wy' h => h.fn (by simp))
  rintro e w' ⟨he, nx', hr, hw, hP'⟩
  exact ⟨he, nx', _, _, hr, ⟨⟨rfl, rfl⟩, .inr (.inr (.inr (.inr (.inr (.inr (.inr (.inl ⟨rfl, rfl, hw⟩)))))))⟩, hP'⟩
theorem sstep_inside0 (y : Int) (hp : Row w bp 69 (pendM bs nx an wy)) (hs : SemM w bs bk bw pl d g) (hn : LookM w bp nx 42) :
    Calls Try.prog 12 #[.pointer (some ⟨bp, 0, none⟩)] w (StepTo w bp bs bk bw pl d g #[.int .u8 1, .int .i64 1, .int .u64 g, .int .u64 g, .bool true] false (NextS bp ⟨4, 1, g, y, an, wy⟩)) := by
  obtain ⟨b5, b6, b7, ⟨b, ⟨b1, b2, b3, rfl, h1, h2, h3⟩, h4⟩, h5, h6, h7⟩ := hn
  refine step_fn hp hs (fun o => act1_load (hp.alloc o) (hs.alloc o) (h1.alloc o) (h2.alloc o) (h3.alloc o) (fun w0 h => mdo_load1 h) (fun wc hP hp' hs' => load1_look ((h4.alloc o).act (hs.alloc o).words.row (by decide) hP) (fun o' => (look1_any (hp'.alloc o') (((h5.alloc o).act (hs.alloc o).words.row (by decide) hP).alloc o') (((h6.alloc o).act (hs.alloc o).words.row (by decide) hP).alloc o') (((h7.alloc o).act (hs.alloc o).words.row (by decide) hP).alloc o')).mono ?_)) NextS.stays) NextS.stays (fun w' nx' an' wy' h => h.fn (by simp))
  rintro e w' ⟨he, nx', hr, hw, hP'⟩
  exact ⟨he, nx', _, _, hr, ⟨⟨rfl, rfl⟩, .inr (.inr (.inr (.inr (.inr (.inr (.inr (.inr (.inr (.inr (⟨rfl, rfl, hw⟩))))))))))⟩, hP'⟩
theorem sstep_try1_full (y : Int) (hp : Row w bp 69 (pendM bs nx an wy)) (hs : SemM w bs bk bw pl d g) {gave : Int} (hn : SeenM w bp nx 37 gave) (hlt : decide (IntKind.u64.wrap (pl + gave) ≤ d) = true) :
    Calls Try.prog 12 #[.pointer (some ⟨bp, 0, none⟩)] w (StepTo w bp bs bk bw pl d g #[.int .u8 1, .int .i64 0, .int .u64 d, .int .u64 d, .bool true] true (NextS bp ⟨2, 9, gave, y, 0, 51⟩)) := by
  obtain ⟨b5, b6, b7, ⟨b, ⟨b1, b2, b3, rfl, h1, h2, h3⟩, h4⟩, h5, h6, h7⟩ := hn
  refine step_nil hp hs (fun o => act1_load (hp.alloc o) (hs.alloc o) (h1.alloc o) (h2.alloc o) (h3.alloc o) (fun w0 h => mdo_load0 h) (fun wc hP hp' hs' => load1_seen ((h4.alloc o).act (hs.alloc o).words.row (by decide) hP) (fun o' => seen1_try (((h5.alloc o).act (hs.alloc o).words.row (by decide) hP).alloc o') (((h6.alloc o).act (hs.alloc o).words.row (by decide) hP).alloc o') ((try1_full (hp'.alloc o') (hs'.alloc o') (((h7.alloc o).act (hs.alloc o).words.row (by decide) hP).alloc o') hlt).mono ?_))) NextS.stays) NextS.stays (fun w' nx' an' wy' h => h.nil_ rfl)
  rintro e w' ⟨he, hr, hP'⟩
  exact ⟨he, _, _, _, hr, ⟨⟨rfl, rfl⟩, .inl ⟨rfl, rfl⟩⟩, hP'⟩
theorem sstep_try1_more (hp : Row w bp 69 (pendM bs nx an wy)) (hs : SemM w bs bk bw pl d g) {gave : Int} (hn : SeenM w bp nx 37 gave) (hlt : decide (IntKind.u64.wrap (pl + gave) ≤ d) = false) :
    Calls Try.prog 12 #[.pointer (some ⟨bp, 0, none⟩)] w (StepTo w bp bs bk bw pl d g #[.int .u8 1, .int .i64 0, .int .u64 d, .int .u64 d, .bool true] false (NextS bp ⟨2, 2, gave, d, an, wy⟩)) := by
  obtain ⟨b5, b6, b7, ⟨b, ⟨b1, b2, b3, rfl, h1, h2, h3⟩, h4⟩, h5, h6, h7⟩ := hn
  refine step_fn hp hs (fun o => act1_load (hp.alloc o) (hs.alloc o) (h1.alloc o) (h2.alloc o) (h3.alloc o) (fun w0 h => mdo_load0 h) (fun wc hP hp' hs' => load1_seen ((h4.alloc o).act (hs.alloc o).words.row (by decide) hP) (fun o' => seen1_try (((h5.alloc o).act (hs.alloc o).words.row (by decide) hP).alloc o') (((h6.alloc o).act (hs.alloc o).words.row (by decide) hP).alloc o') ((try1_more (hp'.alloc o') (hs'.alloc o') (((h7.alloc o).act (hs.alloc o).words.row (by decide) hP).alloc o') hlt).mono ?_))) NextS.stays) NextS.stays (fun w' nx' an' wy' h => h.fn (by simp))
  rintro e w' ⟨he, nx', hr, hw, hP'⟩
  exact ⟨he, nx', _, _, hr, ⟨⟨rfl, rfl⟩, .inr (.inr (.inr (.inr (.inr (.inl ⟨rfl, rfl, hw⟩)))))⟩, hP'⟩
theorem sstep_leave1_free (y : Int) (hp : Row w bp 69 (pendM bs nx an wy)) (hs : SemM w bs bk bw pl d g) {gave : Int} (hn : SeenM w bp nx 41 gave) (hlt : decide (d ≤ gave) = true) :
    Calls Try.prog 12 #[.pointer (some ⟨bp, 0, none⟩)] w (StepTo w bp bs bk bw pl d g #[.int .u8 1, .int .i64 0, .int .u64 d, .int .u64 d, .bool true] true (NextS bp ⟨3, 9, gave, y, 0, 70⟩)) := by
  obtain ⟨b5, b6, b7, ⟨b, ⟨b1, b2, b3, rfl, h1, h2, h3⟩, h4⟩, h5, h6, h7⟩ := hn
  refine step_nil hp hs (fun o => act1_load (hp.alloc o) (hs.alloc o) (h1.alloc o) (h2.alloc o) (h3.alloc o) (fun w0 h => mdo_load0 h) (fun wc hP hp' hs' => load1_seen ((h4.alloc o).act (hs.alloc o).words.row (by decide) hP) (fun o' => seen1_leave (((h5.alloc o).act (hs.alloc o).words.row (by decide) hP).alloc o') (((h6.alloc o).act (hs.alloc o).words.row (by decide) hP).alloc o') ((leave1_free (hp'.alloc o') (hs'.alloc o') (((h7.alloc o).act (hs.alloc o).words.row (by decide) hP).alloc o') hlt).mono ?_))) NextS.stays) NextS.stays (fun w' nx' an' wy' h => h.nil_ rfl)
  rintro e w' ⟨he, hr, hP'⟩
  exact ⟨he, _, _, _, hr, ⟨⟨rfl, rfl⟩, .inl ⟨rfl, rfl⟩⟩, hP'⟩
theorem sstep_leave1_more (hp : Row w bp 69 (pendM bs nx an wy)) (hs : SemM w bs bk bw pl d g) {gave : Int} (hn : SeenM w bp nx 41 gave) (hlt : decide (d ≤ gave) = false) :
    Calls Try.prog 12 #[.pointer (some ⟨bp, 0, none⟩)] w (StepTo w bp bs bk bw pl d g #[.int .u8 1, .int .i64 0, .int .u64 d, .int .u64 d, .bool true] false (NextS bp ⟨3, 2, gave, d, an, wy⟩)) := by
  obtain ⟨b5, b6, b7, ⟨b, ⟨b1, b2, b3, rfl, h1, h2, h3⟩, h4⟩, h5, h6, h7⟩ := hn
  refine step_fn hp hs (fun o => act1_load (hp.alloc o) (hs.alloc o) (h1.alloc o) (h2.alloc o) (h3.alloc o) (fun w0 h => mdo_load0 h) (fun wc hP hp' hs' => load1_seen ((h4.alloc o).act (hs.alloc o).words.row (by decide) hP) (fun o' => seen1_leave (((h5.alloc o).act (hs.alloc o).words.row (by decide) hP).alloc o') (((h6.alloc o).act (hs.alloc o).words.row (by decide) hP).alloc o') ((leave1_more (hp'.alloc o') (hs'.alloc o') (((h7.alloc o).act (hs.alloc o).words.row (by decide) hP).alloc o') hlt).mono ?_))) NextS.stays) NextS.stays (fun w' nx' an' wy' h => h.fn (by simp))
  rintro e w' ⟨he, nx', hr, hw, hP'⟩
  exact ⟨he, nx', _, _, hr, ⟨⟨rfl, rfl⟩, .inr (.inr (.inr (.inr (.inr (.inr (.inr (.inr (.inl ⟨rfl, rfl, hw⟩))))))))⟩, hP'⟩
theorem sstep_inside1 (y : Int) (hp : Row w bp 69 (pendM bs nx an wy)) (hs : SemM w bs bk bw pl d g) {gave : Int} (hn : SeenM w bp nx 42 gave) :
    Calls Try.prog 12 #[.pointer (some ⟨bp, 0, none⟩)] w (StepTo w bp bs bk bw pl d g #[.int .u8 1, .int .i64 0, .int .u64 d, .int .u64 d, .bool true] true (NextS bp ⟨4, 9, gave, y, IntKind.u64.wrap (min d (IntKind.u64.wrap (pl + gave)) - gave), 0⟩)) := by
  obtain ⟨b5, b6, b7, ⟨b, ⟨b1, b2, b3, rfl, h1, h2, h3⟩, h4⟩, h5, h6, h7⟩ := hn
  refine step_nil hp hs (fun o => act1_load (hp.alloc o) (hs.alloc o) (h1.alloc o) (h2.alloc o) (h3.alloc o) (fun w0 h => mdo_load0 h) (fun wc hP hp' hs' => load1_seen ((h4.alloc o).act (hs.alloc o).words.row (by decide) hP) (fun o' => seen1_inside (((h5.alloc o).act (hs.alloc o).words.row (by decide) hP).alloc o') (((h6.alloc o).act (hs.alloc o).words.row (by decide) hP).alloc o') ((inside1_any (hp'.alloc o') (hs'.alloc o') (((h7.alloc o).act (hs.alloc o).words.row (by decide) hP).alloc o')).mono ?_))) NextS.stays) NextS.stays (fun w' nx' an' wy' h => h.nil_ rfl)
  rintro e w' ⟨he, hr, hP'⟩
  exact ⟨he, _, _, _, hr, ⟨⟨rfl, rfl⟩, .inl ⟨rfl, rfl⟩⟩, hP'⟩
theorem sstep_try2_ok (hp : Row w bp 69 (pendM bs nx an wy)) (hs : SemM w bs bk bw pl d g) {a b : Int} (hn : RaiseM w bp nx 0 b b (.func (.func 24) #[.pointer (some ⟨bp, 0, none⟩)] #[])) (he : d = b) :
    Calls Try.prog 12 #[.pointer (some ⟨bp, 0, none⟩)] w (StepTo w bp bs bk bw pl (up d) g #[.int .u8 5, .int .i64 0, .int .u64 d, .int .u64 (up d), .bool true] true (NextS bp ⟨2, 9, a, b, b, 0⟩)) := by
  obtain ⟨b4, b5, b6, ⟨b1, b2, b3, rfl, h1, h2, h3⟩, h4, h5, h6⟩ := hn
  subst he
  refine step_nil hp hs (fun o => act1_raise (hp.alloc o) (hs.alloc o) (h1.alloc o) (h2.alloc o) (h3.alloc o) (fun w0 h => mdo_hit0 h (up_u64 _)) (fun wc hP hp' hs' => (raise1_ok hp' ((h4.alloc o).act (hs.alloc o).words.row (by decide) hP) ((h5.alloc o).act (hs.alloc o).words.row (by decide) hP)).mono ?_) NextS.stays) NextS.stays (fun w' nx' an' wy' h => h.nil_ rfl)
  rintro e w' ⟨he, hr, hP'⟩
  exact ⟨he, _, _, _, hr, ⟨⟨rfl, rfl⟩, .inl ⟨rfl, rfl⟩⟩, hP'⟩
theorem sstep_try2_no (hp : Row w bp 69 (pendM bs nx an wy)) (hs : SemM w bs bk bw pl d g) {a b : Int} (hn : RaiseM w bp nx 0 b b (.func (.func 24) #[.pointer (some ⟨bp, 0, none⟩)] #[])) (he : ¬ d = b) :
    Calls Try.prog 12 #[.pointer (some ⟨bp, 0, none⟩)] w (StepTo w bp bs bk bw pl d g #[.int .u8 5, .int .i64 0, .int .u64 d, .int .u64 d, .bool false] false (NextS bp ⟨2, 0, a, b, an, wy⟩)) := by
  obtain ⟨b4, b5, b6, ⟨b1, b2, b3, rfl, h1, h2, h3⟩, h4, h5, h6⟩ := hn
  refine step_fn hp hs (fun o => act1_raise (hp.alloc o) (hs.alloc o) (h1.alloc o) (h2.alloc o) (h3.alloc o) (fun w0 h => mdo_miss0 h he) (fun wc hP hp' hs' => (raise1_try hp' ((h4.alloc o).act (hs.alloc o).words.row (by decide) hP) ((h6.alloc o).act (hs.alloc o).words.row (by decide) hP)).mono ?_) NextS.stays) NextS.stays (fun w' nx' an' wy' h => h.fn (by simp))
  rintro e w' ⟨he, nx', hr, hw, hP'⟩
  exact ⟨he, nx', _, _, hr, ⟨⟨rfl, rfl⟩, .inr (.inr (.inr (.inl ⟨rfl, rfl, hw⟩)))⟩, hP'⟩
theorem sstep_leave2_ok (hp : Row w bp 69 (pendM bs nx an wy)) (hs : SemM w bs bk bw pl d g) {a b : Int} (hn : RaiseM w bp nx 1 a (up a) (.func (.func 25) #[.pointer (some ⟨bp, 0, none⟩)] #[])) (he : g = a) :
    Calls Try.prog 12 #[.pointer (some ⟨bp, 0, none⟩)] w (StepTo w bp bs bk bw pl d (up g) #[.int .u8 5, .int .i64 1, .int .u64 g, .int .u64 (up g), .bool true] true (NextS bp ⟨3, 9, a, b, (up a), 0⟩)) := by
  obtain ⟨b4, b5, b6, ⟨b1, b2, b3, rfl, h1, h2, h3⟩, h4, h5, h6⟩ := hn
  subst he
  refine step_nil hp hs (fun o => act1_raise (hp.alloc o) (hs.alloc o) (h1.alloc o) (h2.alloc o) (h3.alloc o) (fun w0 h => mdo_hit1 h (up_u64 _)) (fun wc hP hp' hs' => (raise1_ok hp' ((h4.alloc o).act (hs.alloc o).words.row (by decide) hP) ((h5.alloc o).act (hs.alloc o).words.row (by decide) hP)).mono ?_) NextS.stays) NextS.stays (fun w' nx' an' wy' h => h.nil_ rfl)
  rintro e w' ⟨he, hr, hP'⟩
  exact ⟨he, _, _, _, hr, ⟨⟨rfl, rfl⟩, .inl ⟨rfl, rfl⟩⟩, hP'⟩
theorem sstep_leave2_no (hp : Row w bp 69 (pendM bs nx an wy)) (hs : SemM w bs bk bw pl d g) {a b : Int} (hn : RaiseM w bp nx 1 a (up a) (.func (.func 25) #[.pointer (some ⟨bp, 0, none⟩)] #[])) (he : ¬ g = a) :
    Calls Try.prog 12 #[.pointer (some ⟨bp, 0, none⟩)] w (StepTo w bp bs bk bw pl d g #[.int .u8 5, .int .i64 1, .int .u64 g, .int .u64 g, .bool false] false (NextS bp ⟨3, 0, a, b, an, wy⟩)) := by
  obtain ⟨b4, b5, b6, ⟨b1, b2, b3, rfl, h1, h2, h3⟩, h4, h5, h6⟩ := hn
  refine step_fn hp hs (fun o => act1_raise (hp.alloc o) (hs.alloc o) (h1.alloc o) (h2.alloc o) (h3.alloc o) (fun w0 h => mdo_miss1 h he) (fun wc hP hp' hs' => (raise1_leave hp' ((h4.alloc o).act (hs.alloc o).words.row (by decide) hP) ((h6.alloc o).act (hs.alloc o).words.row (by decide) hP)).mono ?_) NextS.stays) NextS.stays (fun w' nx' an' wy' h => h.fn (by simp))
  rintro e w' ⟨he, nx', hr, hw, hP'⟩
  exact ⟨he, nx', _, _, hr, ⟨⟨rfl, rfl⟩, .inr (.inr (.inr (.inr (.inr (.inr (.inl ⟨rfl, rfl, hw⟩))))))⟩, hP'⟩
theorem sstep_over (hp : Row w bp 69 (pendM bs .nilFunc an wy)) :
    Calls Try.prog 12 #[.pointer (some ⟨bp, 0, none⟩)] w fun e w' => e = .returned (.tuple #[.agg #[.int .u8 0, .int .i64 0, .int .u64 0, .int .u64 0, .bool false], .bool true]) ∧ Below w.heap.size w w' := by
  have HP := Lib.hid hp
  clear hp
  go_enter Try.func12, Try.ntmps12
  go_wp2_with (go_at_call 15; refine (done_yes (HP.out.alloc _)).mono ?_; rintro e wx ⟨rfl, rfl⟩)
  refine bodyPost_ret (v := .tuple #[.agg #[.int .u8 0, .int .i64 0, .int .u64 0, .int .u64 0, .bool false], .bool true]) (by simp [results, Try.results12, go_sem]) rfl ⟨rfl, ?_⟩
  repeat (first | exact Below.refl _ _ | refine Below.alloc ?_ (by simp; try omega) _ | refine Below.setCell ?_ (by simp) _)
/-- Step, whatever the operation -/
theorem sstep_op {o : OpS} (hp : Row w bp 69 (pendM bs nx an wy)) (hn : NextS bp o w nx an wy) (hs : SemM w bs bk bw pl d g) :
    Calls Try.prog 12 #[.pointer (some ⟨bp, 0, none⟩)] w (StepTo w bp bs bk bw pl (stepD d o) (stepG g o) (didS d g o) (decide ((stepS pl d g o).ph = 9)) (NextS bp (stepS pl d g o))) := by
  obtain ⟨k, ph, a, b, ans, why⟩ := o
  obtain ⟨⟨rfl, rfl⟩, h⟩ := hn
  dsimp only at h hp ⊢
  rcases h with ⟨rfl, rfl⟩ | ⟨rfl, rfl, h⟩ | ⟨rfl, rfl, h⟩ | ⟨rfl, rfl, h⟩ | ⟨rfl, rfl, h⟩ | ⟨rfl, rfl, h⟩ | ⟨rfl, rfl, h⟩ | ⟨rfl, rfl, h⟩ | ⟨rfl, rfl, h⟩ | ⟨rfl, rfl, h⟩ | ⟨rfl, rfl, h⟩
  · refine (sstep_over hp).mono ?_
    rintro e w' ⟨he, hb⟩
    have hP := Part.of_below hb (Nat.le_refl _) []
    exact ⟨by simpa [didS, stepS] using he, _, _, _, hp.below hb hp.lt, ⟨⟨rfl, rfl⟩, .inl ⟨rfl, rfl⟩⟩, by simpa [stepD, stepG] using ⟨hs.head.part hP (by simp), hs.words.part hP (by simp) (by simp)⟩, Part.of_below hb (Nat.le_refl _) _⟩
  · have := sstep_enter b hp hs h
    simpa [stepS, stepD, stepG, didS] using this
  · by_cases hc' : decide (a < IntKind.u64.wrap (pl + g)) = true
    · have hc := hc'
      have := sstep_wait_yes b hp hs h hc
      simp only [decide_eq_true_eq] at hc'
      simpa [stepS, stepD, stepG, didS, hc'] using this
    · have hc : decide (a < IntKind.u64.wrap (pl + g)) = false := by simpa using hc'
      have := sstep_wait_no b hp hs h hc
      simp only [decide_eq_true_eq] at hc'
      simpa [stepS, stepD, stepG, didS, hc'] using this
  · have := sstep_try0 b hp hs h
    simpa [stepS, stepD, stepG, didS] using this
  · by_cases hc' : decide (IntKind.u64.wrap (pl + a) ≤ d) = true
    · have hc := hc'
      have := sstep_try1_full b hp hs h hc
      simp only [decide_eq_true_eq] at hc'
      simpa [stepS, stepD, stepG, didS, hc'] using this
    · have hc : decide (IntKind.u64.wrap (pl + a) ≤ d) = false := by simpa using hc'
      have := sstep_try1_more hp hs h hc
      simp only [decide_eq_true_eq] at hc'
      simpa [stepS, stepD, stepG, didS, hc'] using this
  · by_cases hc : d = b
    · have := sstep_try2_ok (a := a) (b := b) hp hs h hc
      simpa [stepS, stepD, stepG, didS, hc] using this
    · have := sstep_try2_no (a := a) (b := b) hp hs h hc
      simpa [stepS, stepD, stepG, didS, hc] using this
  · have := sstep_leave0 b hp hs h
    simpa [stepS, stepD, stepG, didS] using this
  · by_cases hc' : decide (d ≤ a) = true
    · have hc := hc'
      have := sstep_leave1_free b hp hs h hc
      simp only [decide_eq_true_eq] at hc'
      simpa [stepS, stepD, stepG, didS, hc'] using this
    · have hc : decide (d ≤ a) = false := by simpa using hc'
      have := sstep_leave1_more hp hs h hc
      simp only [decide_eq_true_eq] at hc'
      simpa [stepS, stepD, stepG, didS, hc'] using this
  · by_cases hc : g = a
    · have := sstep_leave2_ok (a := a) (b := b) hp hs h hc
      simpa [stepS, stepD, stepG, didS, hc] using this
    · have := sstep_leave2_no (a := a) (b := b) hp hs h hc
      simpa [stepS, stepD, stepG, didS, hc] using this
  · have := sstep_inside0 b hp hs h
    simpa [stepS, stepD, stepG, didS] using this
  · have := sstep_inside1 b hp hs h
    simpa [stepS, stepD, stepG, didS] using this
end
end Go.Proofs.Ytamigipljgijlaa
