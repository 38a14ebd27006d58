/- THE WALKS of package hist: what comes next stays; a record's steps. -/
import Derived.Test.YtiifhkfkcljoiaaIh
import Derived.Deep.RegionLaw
import Derived.Deep.AppendLies
import Derived.Laws.MakeOwn
namespace Go.Proofs.Ytiifhkfkcljoiaa
open Go Go.RowKit
set_option maxRecDepth 100000
section
variable {S : List Nat} {w w1 : World} {bp : Nat} {nx t u : Value} {k c o n x by_ saw nb v i : Int} {f : FuncId} {b0 b1 b2 bb bt bq bc bx : Nat}
theorem ActH.stay (h : ActH w bp nx k c o n t) (hP : Part S w w1) (hS : DidS S w) : ActH w1 bp nx k c o n t := by
  obtain ⟨b1, b2, b3, e, h1, h2, h3⟩ := h
  exact ⟨b1, b2, b3, e, h1.stayD hP hS (by decide), h2.stayD hP hS (by decide), h3.stayD hP hS (by decide)⟩
theorem LoadH.stay (h : LoadH w bp nx c u) (hP : Part S w w1) (hS : DidS S w) : LoadH w1 bp nx c u := by
  obtain ⟨b, h1, h2⟩ := h
  exact ⟨b, h1.stay hP hS, h2.stayD hP hS (by decide)⟩
theorem AddH.stay (h : AddH w bp nx c by_ u) (hP : Part S w w1) (hS : DidS S w) : AddH w1 bp nx c by_ u := by
  obtain ⟨b, h1, h2⟩ := h
  exact ⟨b, h1.stay hP hS, h2.stayD hP hS (by decide)⟩
theorem KeepB.stay (h : KeepB w bp f t c x bb bt bq bc bx) (hP : Part S w w1) (hS : DidS S w) : KeepB w1 bp f t c x bb bt bq bc bx := by
  obtain ⟨bv, h1, h2, h3, h4, h5, h6⟩ := h
  exact ⟨bv, h1.stayD hP hS (by decide), h2.stayD hP hS (by decide), h3.stayD hP hS (by decide), h4.stayD hP hS (by decide), h5.stayD hP hS (by decide), h6.stayD hP hS (by decide)⟩
theorem KeepH.stay (h : KeepH w bp nx f t c x) (hP : Part S w w1) (hS : DidS S w) : KeepH w1 bp nx f t c x := by
  obtain ⟨bb, bt, bq, bc, bx, h1, h2⟩ := h
  exact ⟨bb, bt, bq, bc, bx, h1.stay hP hS, h2.stay hP hS⟩
theorem CasH.stay (h : CasH w bp nx f t c saw x) (hP : Part S w w1) (hS : DidS S w) : CasH w1 bp nx f t c saw x := by
  obtain ⟨bb, bt, bq, bc, bx, h1, h2⟩ := h
  exact ⟨bb, bt, bq, bc, bx, h1.stay hP hS, h2.stay hP hS⟩
theorem RecB.stay (h : RecB w bp v n b0 b1 b2) (hP : Part S w w1) (hS : DidS S w) : RecB w1 bp v n b0 b1 b2 := ⟨h.p.stayD hP hS (by decide), h.v.stayD hP hS (by decide), h.n.stayD hP hS (by decide)⟩
theorem ActH.fn (h : ActH w bp nx k c o n t) : ∃ f cs, nx = .func (.func f) #[] cs := by
  obtain ⟨b1, b2, b3, rfl, _⟩ := h
  exact ⟨_, _, rfl⟩
theorem LoadH.fn (h : LoadH w bp nx c u) : ∃ f cs, nx = .func (.func f) #[] cs := by
  obtain ⟨_, h, _⟩ := h
  exact h.fn
theorem AddH.fn (h : AddH w bp nx c by_ u) : ∃ f cs, nx = .func (.func f) #[] cs := by
  obtain ⟨_, h, _⟩ := h
  exact h.fn
theorem R0H.stay (h : R0H w bp nx i v n) (hP : Part S w w1) (hS : DidS S w) : R0H w1 bp nx i v n := by
  obtain ⟨b0, b1, b2, h1, h2⟩ := h
  exact ⟨b0, b1, b2, h1.stay hP hS, h2.stay hP hS⟩
theorem R0H.fn (h : R0H w bp nx i v n) : ∃ f cs, nx = .func (.func f) #[] cs := by
  obtain ⟨b0, b1, b2, h1, h2⟩ := h
  exact h1.fn
theorem R1H.stay (h : R1H w bp nx nb v n) (hP : Part S w w1) (hS : DidS S w) : R1H w1 bp nx nb v n := by
  obtain ⟨b0, b1, b2, h1, h2⟩ := h
  exact ⟨b0, b1, b2, h1.stay hP hS, h2.stay hP hS⟩
theorem R1H.fn (h : R1H w bp nx nb v n) : ∃ f cs, nx = .func (.func f) #[] cs := by
  obtain ⟨b0, b1, b2, h1, h2⟩ := h
  exact h1.fn
theorem R2H.stay (h : R2H w bp nx nb v n) (hP : Part S w w1) (hS : DidS S w) : R2H w1 bp nx nb v n := by
  obtain ⟨b0, b1, b2, h1, h2⟩ := h
  exact ⟨b0, b1, b2, h1.stay hP hS, h2.stay hP hS⟩
theorem R2H.fn (h : R2H w bp nx nb v n) : ∃ f cs, nx = .func (.func f) #[] cs := by
  obtain ⟨b0, b1, b2, h1, h2⟩ := h
  obtain ⟨_, _, _, _, _, h1, _⟩ := h1; exact h1.fn
theorem C2H.stay (h : C2H w bp nx nb v n saw) (hP : Part S w w1) (hS : DidS S w) : C2H w1 bp nx nb v n saw := by
  obtain ⟨b0, b1, b2, h1, h2⟩ := h
  exact ⟨b0, b1, b2, h1.stay hP hS, h2.stay hP hS⟩
theorem C2H.fn (h : C2H w bp nx nb v n saw) : ∃ f cs, nx = .func (.func f) #[] cs := by
  obtain ⟨b0, b1, b2, h1, h2⟩ := h
  obtain ⟨_, _, _, _, _, h1, _⟩ := h1; exact h1.fn
theorem R3H.stay (h : R3H w bp nx nb v n) (hP : Part S w w1) (hS : DidS S w) : R3H w1 bp nx nb v n := by
  obtain ⟨b0, b1, b2, h1, h2⟩ := h
  exact ⟨b0, b1, b2, h1.stay hP hS, h2.stay hP hS⟩
theorem R3H.fn (h : R3H w bp nx nb v n) : ∃ f cs, nx = .func (.func f) #[] cs := by
  obtain ⟨b0, b1, b2, h1, h2⟩ := h
  obtain ⟨_, _, _, _, _, h1, _⟩ := h1; exact h1.fn
theorem C3H.stay (h : C3H w bp nx nb v n saw) (hP : Part S w w1) (hS : DidS S w) : C3H w1 bp nx nb v n saw := by
  obtain ⟨b0, b1, b2, h1, h2⟩ := h
  exact ⟨b0, b1, b2, h1.stay hP hS, h2.stay hP hS⟩
theorem C3H.fn (h : C3H w bp nx nb v n saw) : ∃ f cs, nx = .func (.func f) #[] cs := by
  obtain ⟨b0, b1, b2, h1, h2⟩ := h
  obtain ⟨_, _, _, _, _, h1, _⟩ := h1; exact h1.fn
theorem R4H.stay (h : R4H w bp nx nb n) (hP : Part S w w1) (hS : DidS S w) : R4H w1 bp nx nb n := AddH.stay h hP hS
theorem R4H.fn (h : R4H w bp nx nb n) : ∃ f cs, nx = .func (.func f) #[] cs := AddH.fn h
theorem S1H.stay (h : S1H w bp nx nb) (hP : Part S w w1) (hS : DidS S w) : S1H w1 bp nx nb := by
  obtain ⟨b0, h1, h2⟩ := h
  exact ⟨b0, h1.stay hP hS, h2.stayD hP hS (by decide)⟩
theorem S1H.fn (h : S1H w bp nx nb) : ∃ f cs, nx = .func (.func f) #[] cs := by
  obtain ⟨b0, h1, h2⟩ := h
  exact h1.fn
theorem S2H.stay (h : S2H w bp nx nb) (hP : Part S w w1) (hS : DidS S w) : S2H w1 bp nx nb := by
  obtain ⟨b0, h1, h2⟩ := h
  exact ⟨b0, h1.stay hP hS, h2.stayD hP hS (by decide)⟩
theorem S2H.fn (h : S2H w bp nx nb) : ∃ f cs, nx = .func (.func f) #[] cs := by
  obtain ⟨b0, h1, h2⟩ := h
  exact h1.fn
theorem S3H.stay (h : S3H w bp nx nb) (hP : Part S w w1) (hS : DidS S w) : S3H w1 bp nx nb := by
  obtain ⟨b0, h1, h2⟩ := h
  exact ⟨b0, h1.stay hP hS, h2.stayD hP hS (by decide)⟩
theorem S3H.fn (h : S3H w bp nx nb) : ∃ f cs, nx = .func (.func f) #[] cs := by
  obtain ⟨b0, h1, h2⟩ := h
  exact h1.fn
theorem S4H.stay (h : S4H w bp nx nb) (hP : Part S w w1) (hS : DidS S w) : S4H w1 bp nx nb := by
  obtain ⟨b0, h1, h2⟩ := h
  exact ⟨b0, h1.stay hP hS, h2.stayD hP hS (by decide)⟩
theorem S4H.fn (h : S4H w bp nx nb) : ∃ f cs, nx = .func (.func f) #[] cs := by
  obtain ⟨b0, h1, h2⟩ := h
  exact h1.fn
theorem GatH.stay (h : GatH w bp nx c) (hP : Part S w w1) (hS : DidS S w) : GatH w1 bp nx c := by
  obtain ⟨b0, h1, h2⟩ := h
  exact ⟨b0, h1.stay hP hS, h2.stayD hP hS (by decide)⟩
theorem GatH.fn (h : GatH w bp nx c) : ∃ f cs, nx = .func (.func f) #[] cs := by
  obtain ⟨b0, h1, h2⟩ := h
  exact h1.fn
end
/-- a box stays behind an action -/
theorem Row.act {w wc : World} {bw b : Nat} {t : TypeId} {l l' : List Value} (h : Row w b t l) (hw : Row w bw 107 l') (ht : t ≠ 107) (hP : Part [bw] w wc) : Row wc b t l := h.part hP (by simpa using h.ne hw ht)
theorem RecB.act {w wc : World} {bp bw b0 b1 b2 : Nat} {v n : Int} {l' : List Value} (h : RecB w bp v n b0 b1 b2) (hw : Row w bw 107 l') (hP : Part [bw] w wc) : RecB wc bp v n b0 b1 b2 := ⟨h.p.act hw (by decide) hP, h.v.act hw (by decide) hP, h.n.act hw (by decide) hP⟩
theorem KeepB.act {w wc : World} {bp bw bb bt bq bc bx : Nat} {f : FuncId} {t : Value} {c x : Int} {l' : List Value} (h : KeepB w bp f t c x bb bt bq bc bx) (hw : Row w bw 107 l') (hP : Part [bw] w wc) : KeepB wc bp f t c x bb bt bq bc bx := by
  obtain ⟨bv, h1, h2, h3, h4, h5, h6⟩ := h
  exact ⟨bv, h1.act hw (by decide) hP, h2.act hw (by decide) hP, h3.act hw (by decide) hP, h4.act hw (by decide) hP, h5.act hw (by decide) hP, h6.act hw (by decide) hP⟩
theorem KeepB.alloc {w : World} {bp bb bt bq bc bx : Nat} {f : FuncId} {t : Value} {c x : Int} (h : KeepB w bp f t c x bb bt bq bc bx) (o : Obj) : KeepB (w.alloc o) bp f t c x bb bt bq bc bx := by
  obtain ⟨bv, h1, h2, h3, h4, h5, h6⟩ := h
  exact ⟨bv, h1.alloc o, h2.alloc o, h3.alloc o, h4.alloc o, h5.alloc o, h6.alloc o⟩
theorem Else.nil (w : World) (bh bk bw : Nat) : Else [] w bh bk bw := fun q hq => by simp at hq
theorem Else.alloc {T : List Nat} {w : World} {bh bk bw : Nat} (h : Else T w bh bk bw) (o : Obj) : Else T (w.alloc o) bh bk bw := fun q hq => ⟨by have := (h q hq).1; simp; omega, (h q hq).2⟩
def up (x : Int) : Int := IntKind.u64.wrap x
theorem cdo_load {w : World} {bk bw : Nat} {ws : List Int} (h : Words w bk bw ws) {i : Nat} {c x : Int} (hc : c = (i : Int)) (hi : ws[i]? = some x) : Calls Try.prog 93 #[.pointer (some ⟨bk, 0, none⟩), .agg #[.int .u8 1, .int .i64 c, .int .u64 0, .int .u64 0]] w (Acted w bk bw ws (.tuple #[.agg #[.int .u8 1, .int .i64 c, .int .u64 x, .int .u64 x, .bool true], .int .i64 0])) := by
  subst hc
  exact do_load h hi
theorem cdo_add {w : World} {bk bw : Nat} {ws : List Int} (h : Words w bk bw ws) {i : Nat} {c x y : Int} (hc : c = (i : Int)) (hi : ws[i]? = some x) : Calls Try.prog 93 #[.pointer (some ⟨bk, 0, none⟩), .agg #[.int .u8 3, .int .i64 c, .int .u64 0, .int .u64 y]] w (Acted w bk bw (ws.set i (IntKind.u64.wrap (x + y))) (.tuple #[.agg #[.int .u8 3, .int .i64 c, .int .u64 x, .int .u64 (IntKind.u64.wrap (x + y)), .bool true], .int .i64 0])) := by
  subst hc
  exact do_add h hi
theorem cdo_hit {w : World} {bk bw : Nat} {ws : List Int} (h : Words w bk bw ws) {i : Nat} {c x y : Int} (hc : c = (i : Int)) (hi : ws[i]? = some x) (hy : U64 y) : Calls Try.prog 93 #[.pointer (some ⟨bk, 0, none⟩), .agg #[.int .u8 5, .int .i64 c, .int .u64 x, .int .u64 y]] w (Acted w bk bw (ws.set i y) (.tuple #[.agg #[.int .u8 5, .int .i64 c, .int .u64 x, .int .u64 y, .bool true], .int .i64 0])) := by
  subst hc
  exact do_hit h hi hy
theorem cdo_miss {w : World} {bk bw : Nat} {ws : List Int} (h : Words w bk bw ws) {i : Nat} {c x y z : Int} (hc : c = (i : Int)) (hi : ws[i]? = some x) (hne : ¬ x = z) : Calls Try.prog 93 #[.pointer (some ⟨bk, 0, none⟩), .agg #[.int .u8 5, .int .i64 c, .int .u64 z, .int .u64 y]] w (Acted w bk bw ws (.tuple #[.agg #[.int .u8 5, .int .i64 c, .int .u64 x, .int .u64 x, .bool false], .int .i64 0])) := by
  subst hc
  exact do_miss h hi hne
section
variable {w : World} {bp bh bk bw m i : Nat} {nx : Value} {s : ShM} {l h d v n x : Int} {ws : List Int}
theorem hstep_r0 (hp : Row w bp 85 (pendH bh nx s)) (hs : HistM w bh bk bw l h d m ws) (hn : R0H w bp nx (i : Int) v n) (hi : ws[i]? = some x) : Calls Try.prog 16 #[.pointer (some ⟨bp, 0, none⟩)] w (StepTo w bp bh bk bw l h d m (ws.set i (IntKind.u64.wrap (x + n))) [] #[.int .u8 3, .int .i64 (i : Int), .int .u64 x, .int .u64 (IntKind.u64.wrap (x + n)), .bool true] false (fun w' nx' s' => R1H w' bp nx' (m : Int) v n ∧ s' = s)) := by
  obtain ⟨b0, b1, b2, ⟨b, ⟨a1, a2, a3, rfl, h1, h2, h3⟩, h4⟩, hb⟩ := hn
  exact step_fn hp hs (Else.nil _ _ _ _) (fun o => act1_add (hp.alloc o) (hs.alloc o) (by simp) (h1.alloc o) (h2.alloc o) (h3.alloc o) (fun w0 h => cdo_add h rfl hi) (fun wc hP hp' hh' => add1_1 ((h4.alloc o).act (hs.alloc o).words.row (by decide) hP) ((record1_any (hp'.alloc _) (hh'.alloc _) (((hb.alloc o).act (hs.alloc o).words.row hP).alloc _) (by omega) (by have := hs.few; omega)).mono (fun e w' ⟨he, nx', hr, ha, hP⟩ => ⟨he, nx', s, hr, ⟨ha, rfl⟩, hP⟩))) (Else.nil _ _ _ _) (fun w1 w2 S nx s' h hP hS => ⟨h.1.stay hP hS, h.2⟩)) (fun w1 w2 S nx s' h hP hS => ⟨h.1.stay hP hS, h.2⟩) (fun w' nx' s' h => h.1.fn)
theorem hstep_r1 (hp : Row w bp 85 (pendH bh nx s)) (hs : HistM w bh bk bw l h d m ws) (hn : R1H w bp nx (m : Int) v n) (hi : ws[m]? = some x) : Calls Try.prog 16 #[.pointer (some ⟨bp, 0, none⟩)] w (StepTo w bp bh bk bw l h d m (ws.set m (IntKind.u64.wrap (x + IntKind.u64.wrap (v * n)))) [] #[.int .u8 3, .int .i64 (m : Int), .int .u64 x, .int .u64 (IntKind.u64.wrap (x + IntKind.u64.wrap (v * n))), .bool true] false (fun w' nx' s' => R2H w' bp nx' (m : Int) v n ∧ s' = s)) := by
  obtain ⟨b0, b1, b2, ⟨b, ⟨a1, a2, a3, rfl, h1, h2, h3⟩, h4⟩, hb⟩ := hn
  exact step_fn hp hs (Else.nil _ _ _ _) (fun o => act1_add (hp.alloc o) (hs.alloc o) (by simp) (h1.alloc o) (h2.alloc o) (h3.alloc o) (fun w0 h => cdo_add h rfl hi) (fun wc hP hp' hh' => add1_2 ((h4.alloc o).act (hs.alloc o).words.row (by decide) hP) ((record2_any (hp'.alloc _) (hh'.alloc _) (((hb.alloc o).act (hs.alloc o).words.row hP).alloc _) (by omega) (by have := hs.few; omega)).mono (fun e w' ⟨he, nx', hr, ha, hP⟩ => ⟨he, nx', s, hr, ⟨ha, rfl⟩, hP⟩))) (Else.nil _ _ _ _) (fun w1 w2 S nx s' h hP hS => ⟨h.1.stay hP hS, h.2⟩)) (fun w1 w2 S nx s' h hP hS => ⟨h.1.stay hP hS, h.2⟩) (fun w' nx' s' h => h.1.fn)
theorem hstep_r4 (hp : Row w bp 85 (pendH bh nx s)) (hs : HistM w bh bk bw l h d m ws) (hn : R4H w bp nx (m : Int) n) (hi : ws[m + 3]? = some x) : Calls Try.prog 16 #[.pointer (some ⟨bp, 0, none⟩)] w (StepTo w bp bh bk bw l h d m (ws.set (m + 3) (IntKind.u64.wrap (x + n))) [] #[.int .u8 3, .int .i64 ((m : Int) + 3), .int .u64 x, .int .u64 (IntKind.u64.wrap (x + n)), .bool true] true (fun _w' nx' s' => nx' = .nilFunc ∧ s' = s)) := by
  obtain ⟨b, ⟨a1, a2, a3, rfl, h1, h2, h3⟩, h4⟩ := hn
  exact step_nil hp hs (Else.nil _ _ _ _) (fun o => act1_add (hp.alloc o) (hs.alloc o) (by simp) (h1.alloc o) (h2.alloc o) (h3.alloc o) (fun w0 h => cdo_add h (by simp) hi) (fun wc hP hp' hh' => add1_end hp' ((h4.alloc o).act (hs.alloc o).words.row (by decide) hP)) (Else.nil _ _ _ _) (fun w1 w2 S nx s' h hP hS => h)) (fun w1 w2 S nx s' h hP hS => h) (fun w' nx' s' h => h.1)
theorem hstep_r2_over (hp : Row w bp 85 (pendH bh nx s)) (hs : HistM w bh bk bw l h d m ws) (hn : R2H w bp nx (m : Int) v n) (hi : ws[m + 1]? = some x) (ht : decide (v < x) = false) : Calls Try.prog 16 #[.pointer (some ⟨bp, 0, none⟩)] w (StepTo w bp bh bk bw l h d m ws [] #[.int .u8 1, .int .i64 ((m : Int) + 1), .int .u64 x, .int .u64 x, .bool true] false (fun w' nx' s' => R3H w' bp nx' (m : Int) v n ∧ s' = s)) := by
  obtain ⟨b0, b1, b2, ⟨bb, bt, bq, bc, bx, ⟨b, ⟨a1, a2, a3, rfl, h1, h2, h3⟩, h4⟩, hk⟩, hb⟩ := hn
  exact step_fn hp hs (Else.nil _ _ _ _) (fun o => act1_load (hp.alloc o) (hs.alloc o) rfl (h1.alloc o) (h2.alloc o) (h3.alloc o) (fun w0 h => cdo_load h (by simp) hi) (fun wc hP hp' hh' => load1_keep ((h4.alloc o).act (hs.alloc o).words.row (by decide) hP) ((keep_over_least (hp'.alloc _) (hh'.alloc _) (((hk.alloc o).act (hs.alloc o).words.row hP).alloc _) (((hb.alloc o).act (hs.alloc o).words.row hP).alloc _) (by omega) (by have := hs.few; omega) ht).mono (fun e w' ⟨he, nx', hr, ha, hP⟩ => ⟨he, nx', s, hr, ⟨ha, rfl⟩, hP⟩))) (Else.nil _ _ _ _) (fun w1 w2 S nx s' h hP hS => ⟨h.1.stay hP hS, h.2⟩)) (fun w1 w2 S nx s' h hP hS => ⟨h.1.stay hP hS, h.2⟩) (fun w' nx' s' h => h.1.fn)
theorem hstep_r2_more (hp : Row w bp 85 (pendH bh nx s)) (hs : HistM w bh bk bw l h d m ws) (hn : R2H w bp nx (m : Int) v n) (hi : ws[m + 1]? = some x) (ht : decide (v < x) = true) : Calls Try.prog 16 #[.pointer (some ⟨bp, 0, none⟩)] w (StepTo w bp bh bk bw l h d m ws [] #[.int .u8 1, .int .i64 ((m : Int) + 1), .int .u64 x, .int .u64 x, .bool true] false (fun w' nx' s' => C2H w' bp nx' (m : Int) v n x ∧ s' = s)) := by
  obtain ⟨b0, b1, b2, ⟨bb, bt, bq, bc, bx, ⟨b, ⟨a1, a2, a3, rfl, h1, h2, h3⟩, h4⟩, hk⟩, hb⟩ := hn
  exact step_fn hp hs (Else.nil _ _ _ _) (fun o => act1_load (hp.alloc o) (hs.alloc o) rfl (h1.alloc o) (h2.alloc o) (h3.alloc o) (fun w0 h => cdo_load h (by simp) hi) (fun wc hP hp' hh' => load1_keep ((h4.alloc o).act (hs.alloc o).words.row (by decide) hP) ((keep_more_least (hp'.alloc _) (hh'.alloc _) (((hk.alloc o).act (hs.alloc o).words.row hP).alloc _) (((hb.alloc o).act (hs.alloc o).words.row hP).alloc _) (by omega) (by have := hs.few; omega) ht).mono (fun e w' ⟨he, nx', hr, ha, hP⟩ => ⟨he, nx', s, hr, ⟨ha, rfl⟩, hP⟩))) (Else.nil _ _ _ _) (fun w1 w2 S nx s' h hP hS => ⟨h.1.stay hP hS, h.2⟩)) (fun w1 w2 S nx s' h hP hS => ⟨h.1.stay hP hS, h.2⟩) (fun w' nx' s' h => h.1.fn)
theorem hstep_c2_hit (hp : Row w bp 85 (pendH bh nx s)) (hs : HistM w bh bk bw l h d m ws) (hn : C2H w bp nx (m : Int) v n x) (hi : ws[m + 1]? = some x) (hy : U64 v) : Calls Try.prog 16 #[.pointer (some ⟨bp, 0, none⟩)] w (StepTo w bp bh bk bw l h d m (ws.set (m + 1) v) [] #[.int .u8 5, .int .i64 ((m : Int) + 1), .int .u64 x, .int .u64 v, .bool true] false (fun w' nx' s' => R3H w' bp nx' (m : Int) v n ∧ s' = s)) := by
  obtain ⟨b0, b1, b2, ⟨bb, bt, bq, bc, bx, ⟨a1, a2, a3, rfl, h1, h2, h3⟩, hk⟩, hb⟩ := hn
  exact step_fn hp hs (Else.nil _ _ _ _) (fun o => act1_keep (hp.alloc o) (hs.alloc o) (by simp) (h1.alloc o) (h2.alloc o) (h3.alloc o) (fun w0 h => cdo_hit h (by simp) hi hy) (fun wc hP hp' hh' => (keep1_ok_least hp' hh' ((hk.alloc o).act (hs.alloc o).words.row hP) ((hb.alloc o).act (hs.alloc o).words.row hP) (by omega) (by have := hs.few; omega)).mono (fun e w' ⟨he, nx', hr, ha, hP⟩ => ⟨he, nx', s, hr, ⟨ha, rfl⟩, hP⟩)) (Else.nil _ _ _ _) (fun w1 w2 S nx s' h hP hS => ⟨h.1.stay hP hS, h.2⟩)) (fun w1 w2 S nx s' h hP hS => ⟨h.1.stay hP hS, h.2⟩) (fun w' nx' s' h => h.1.fn)
theorem hstep_c2_miss (hp : Row w bp 85 (pendH bh nx s)) (hs : HistM w bh bk bw l h d m ws) {saw : Int} (hn : C2H w bp nx (m : Int) v n saw) (hi : ws[m + 1]? = some x) (hne : ¬ x = saw) : Calls Try.prog 16 #[.pointer (some ⟨bp, 0, none⟩)] w (StepTo w bp bh bk bw l h d m ws [] #[.int .u8 5, .int .i64 ((m : Int) + 1), .int .u64 x, .int .u64 x, .bool false] false (fun w' nx' s' => R2H w' bp nx' (m : Int) v n ∧ s' = s)) := by
  obtain ⟨b0, b1, b2, ⟨bb, bt, bq, bc, bx, ⟨a1, a2, a3, rfl, h1, h2, h3⟩, hk⟩, hb⟩ := hn
  exact step_fn hp hs (Else.nil _ _ _ _) (fun o => act1_keep (hp.alloc o) (hs.alloc o) rfl (h1.alloc o) (h2.alloc o) (h3.alloc o) (fun w0 h => cdo_miss h (by simp) hi hne) (fun wc hP hp' hh' => (keep1_no_least hp' hh' ((hk.alloc o).act (hs.alloc o).words.row hP) ((hb.alloc o).act (hs.alloc o).words.row hP) (by omega) (by have := hs.few; omega)).mono (fun e w' ⟨he, nx', hr, ha, hP⟩ => ⟨he, nx', s, hr, ⟨ha, rfl⟩, hP⟩)) (Else.nil _ _ _ _) (fun w1 w2 S nx s' h hP hS => ⟨h.1.stay hP hS, h.2⟩)) (fun w1 w2 S nx s' h hP hS => ⟨h.1.stay hP hS, h.2⟩) (fun w' nx' s' h => h.1.fn)
theorem hstep_r3_over (hp : Row w bp 85 (pendH bh nx s)) (hs : HistM w bh bk bw l h d m ws) (hn : R3H w bp nx (m : Int) v n) (hi : ws[m + 2]? = some x) (ht : decide (x < IntKind.u64.wrap (v + 1)) = false) : Calls Try.prog 16 #[.pointer (some ⟨bp, 0, none⟩)] w (StepTo w bp bh bk bw l h d m ws [] #[.int .u8 1, .int .i64 ((m : Int) + 2), .int .u64 x, .int .u64 x, .bool true] false (fun w' nx' s' => R4H w' bp nx' (m : Int) n ∧ s' = s)) := by
  obtain ⟨b0, b1, b2, ⟨bb, bt, bq, bc, bx, ⟨b, ⟨a1, a2, a3, rfl, h1, h2, h3⟩, h4⟩, hk⟩, hb⟩ := hn
  exact step_fn hp hs (Else.nil _ _ _ _) (fun o => act1_load (hp.alloc o) (hs.alloc o) rfl (h1.alloc o) (h2.alloc o) (h3.alloc o) (fun w0 h => cdo_load h (by simp) hi) (fun wc hP hp' hh' => load1_keep ((h4.alloc o).act (hs.alloc o).words.row (by decide) hP) ((keep_over_greatest (hp'.alloc _) (hh'.alloc _) (((hk.alloc o).act (hs.alloc o).words.row hP).alloc _) (((hb.alloc o).act (hs.alloc o).words.row hP).alloc _) (by omega) (by have := hs.few; omega) ht).mono (fun e w' ⟨he, nx', hr, ha, hP⟩ => ⟨he, nx', s, hr, ⟨ha, rfl⟩, hP⟩))) (Else.nil _ _ _ _) (fun w1 w2 S nx s' h hP hS => ⟨h.1.stay hP hS, h.2⟩)) (fun w1 w2 S nx s' h hP hS => ⟨h.1.stay hP hS, h.2⟩) (fun w' nx' s' h => h.1.fn)
theorem hstep_r3_more (hp : Row w bp 85 (pendH bh nx s)) (hs : HistM w bh bk bw l h d m ws) (hn : R3H w bp nx (m : Int) v n) (hi : ws[m + 2]? = some x) (ht : decide (x < IntKind.u64.wrap (v + 1)) = true) : Calls Try.prog 16 #[.pointer (some ⟨bp, 0, none⟩)] w (StepTo w bp bh bk bw l h d m ws [] #[.int .u8 1, .int .i64 ((m : Int) + 2), .int .u64 x, .int .u64 x, .bool true] false (fun w' nx' s' => C3H w' bp nx' (m : Int) v n x ∧ s' = s)) := by
  obtain ⟨b0, b1, b2, ⟨bb, bt, bq, bc, bx, ⟨b, ⟨a1, a2, a3, rfl, h1, h2, h3⟩, h4⟩, hk⟩, hb⟩ := hn
  exact step_fn hp hs (Else.nil _ _ _ _) (fun o => act1_load (hp.alloc o) (hs.alloc o) rfl (h1.alloc o) (h2.alloc o) (h3.alloc o) (fun w0 h => cdo_load h (by simp) hi) (fun wc hP hp' hh' => load1_keep ((h4.alloc o).act (hs.alloc o).words.row (by decide) hP) ((keep_more_greatest (hp'.alloc _) (hh'.alloc _) (((hk.alloc o).act (hs.alloc o).words.row hP).alloc _) (((hb.alloc o).act (hs.alloc o).words.row hP).alloc _) (by omega) (by have := hs.few; omega) ht).mono (fun e w' ⟨he, nx', hr, ha, hP⟩ => ⟨he, nx', s, hr, ⟨ha, rfl⟩, hP⟩))) (Else.nil _ _ _ _) (fun w1 w2 S nx s' h hP hS => ⟨h.1.stay hP hS, h.2⟩)) (fun w1 w2 S nx s' h hP hS => ⟨h.1.stay hP hS, h.2⟩) (fun w' nx' s' h => h.1.fn)
theorem hstep_c3_hit (hp : Row w bp 85 (pendH bh nx s)) (hs : HistM w bh bk bw l h d m ws) (hn : C3H w bp nx (m : Int) v n x) (hi : ws[m + 2]? = some x) (hy : U64 (IntKind.u64.wrap (v + 1))) : Calls Try.prog 16 #[.pointer (some ⟨bp, 0, none⟩)] w (StepTo w bp bh bk bw l h d m (ws.set (m + 2) (IntKind.u64.wrap (v + 1))) [] #[.int .u8 5, .int .i64 ((m : Int) + 2), .int .u64 x, .int .u64 (IntKind.u64.wrap (v + 1)), .bool true] false (fun w' nx' s' => R4H w' bp nx' (m : Int) n ∧ s' = s)) := by
  obtain ⟨b0, b1, b2, ⟨bb, bt, bq, bc, bx, ⟨a1, a2, a3, rfl, h1, h2, h3⟩, hk⟩, hb⟩ := hn
  exact step_fn hp hs (Else.nil _ _ _ _) (fun o => act1_keep (hp.alloc o) (hs.alloc o) (by simp) (h1.alloc o) (h2.alloc o) (h3.alloc o) (fun w0 h => cdo_hit h (by simp) hi hy) (fun wc hP hp' hh' => (keep1_ok_greatest hp' hh' ((hk.alloc o).act (hs.alloc o).words.row hP) ((hb.alloc o).act (hs.alloc o).words.row hP) (by omega) (by have := hs.few; omega)).mono (fun e w' ⟨he, nx', hr, ha, hP⟩ => ⟨he, nx', s, hr, ⟨ha, rfl⟩, hP⟩)) (Else.nil _ _ _ _) (fun w1 w2 S nx s' h hP hS => ⟨h.1.stay hP hS, h.2⟩)) (fun w1 w2 S nx s' h hP hS => ⟨h.1.stay hP hS, h.2⟩) (fun w' nx' s' h => h.1.fn)
theorem hstep_c3_miss (hp : Row w bp 85 (pendH bh nx s)) (hs : HistM w bh bk bw l h d m ws) {saw : Int} (hn : C3H w bp nx (m : Int) v n saw) (hi : ws[m + 2]? = some x) (hne : ¬ x = saw) : Calls Try.prog 16 #[.pointer (some ⟨bp, 0, none⟩)] w (StepTo w bp bh bk bw l h d m ws [] #[.int .u8 5, .int .i64 ((m : Int) + 2), .int .u64 x, .int .u64 x, .bool false] false (fun w' nx' s' => R3H w' bp nx' (m : Int) v n ∧ s' = s)) := by
  obtain ⟨b0, b1, b2, ⟨bb, bt, bq, bc, bx, ⟨a1, a2, a3, rfl, h1, h2, h3⟩, hk⟩, hb⟩ := hn
  exact step_fn hp hs (Else.nil _ _ _ _) (fun o => act1_keep (hp.alloc o) (hs.alloc o) rfl (h1.alloc o) (h2.alloc o) (h3.alloc o) (fun w0 h => cdo_miss h (by simp) hi hne) (fun wc hP hp' hh' => (keep1_no_greatest hp' hh' ((hk.alloc o).act (hs.alloc o).words.row hP) ((hb.alloc o).act (hs.alloc o).words.row hP) (by omega) (by have := hs.few; omega)).mono (fun e w' ⟨he, nx', hr, ha, hP⟩ => ⟨he, nx', s, hr, ⟨ha, rfl⟩, hP⟩)) (Else.nil _ _ _ _) (fun w1 w2 S nx s' h hP hS => ⟨h.1.stay hP hS, h.2⟩)) (fun w1 w2 S nx s' h hP hS => ⟨h.1.stay hP hS, h.2⟩) (fun w' nx' s' h => h.1.fn)
end
end Go.Proofs.Ytiifhkfkcljoiaa
