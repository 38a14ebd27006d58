/- WHAT 'SnapCalls' HAS IN MEMORY. -/
import Derived.Test.YtdadgppbpomdoaaQi
import Derived.Test.YtdadgppbpomdoaaEz
namespace Go.Proofs.Ytdadgppbpomdoaa
open Go Go.RowKit

section
variable {W wr w1 wx wy : World} {n br bk bw b9 b11 : Nat} {ws ws' wc wd : List Int} {s : Option Addr × Nat × Nat} {X : List Nat} {l9 l11 : List Value}
/-- behind what turns a block of another type -/
theorem SnSt.off {g : Nat} {t : TypeId} {l : List Value} (h : SnSt W n br bk bw ws wr) (hg : Row wr g t l) (hlo : W.heap.size ≤ g) (hP : Part [g] wr w1)
    (n1 : 78 ≠ t) (n2 : 94 ≠ t) (n3 : 108 ≠ t) : SnSt W n br bk bw ws w1 := by
  have r := h.regs
  exact ⟨r.part hP (by simpa using r.head.ne hg n1) (by simpa using r.words.head.ne hg n2) (by simpa using r.words.row.ne hg n3), h.len, h.lo, h.low.trans (hP.below h.low.size (by simpa using hlo))⟩
/-- the registers, and the document's words -/
structure CallsQ (W : World) (n br bk bw : Nat) (ws : List Int) (s : Option Addr × Nat × Nat) (X : List Nat) (wr : World) : Prop where
  st : SnSt W n br bk bw ws wr
  doc : ListU W X wr s ws
/-- within a round: the registers have turned, the document's words not yet; the operation and the register that was answered lie in their boxes -/
structure RndQ (W : World) (n br bk bw : Nat) (wc wd : List Int) (s : Option Addr × Nat × Nat) (X : List Nat) (b9 b11 : Nat) (l9 l11 : List Value) (wx : World) : Prop where
  st : SnSt W n br bk bw wc wx
  doc : ListU W X wx s wd
  x : Row wx b9 37 l9
  one : Row wx b11 60 l11
  lo9 : W.heap.size ≤ b9
  lo11 : W.heap.size ≤ b11
  docs : ∀ q, (sl s).ownBlock = some q → q ≠ bw
theorem CallsQ.on (h : CallsQ W n br bk bw ws s X wr) (hb : Below wr.heap.size wr w1) : CallsQ W n br bk bw ws s X w1 := ⟨h.st.on hb, h.doc.on hb⟩
theorem CallsQ.begin (h : CallsQ W n br bk bw ws s X wr) (l9 l11 : List Value) : RndQ W n br bk bw ws ws s X wr.heap.size (wr.heap.size + 1) l9 l11 ((wr.alloc (.cells l9.toArray 37)).alloc (.cells l11.toArray 60)) := by
  have h1 := h.on (((Below.refl _ _).alloc (Nat.le_refl _) (.cells l9.toArray 37)).alloc (by simp) (.cells l11.toArray 60))
  have hlo := h.st.low.size
  exact ⟨h1.st, h1.doc, (Row.new wr _ l9).alloc _, by have := Row.new (wr.alloc (.cells l9.toArray 37)) 60 l11; rwa [World.size_alloc] at this, hlo, by omega, fun q e => h.doc.off h.st.regs.words.row (by decide) q e⟩
theorem RndQ.on (h : RndQ W n br bk bw wc wd s X b9 b11 l9 l11 wx) (hb : Below wx.heap.size wx wy) : RndQ W n br bk bw wc wd s X b9 b11 l9 l11 wy :=
  ⟨h.st.on hb, h.doc.on hb, h.x.below hb h.x.lt, h.one.below hb h.one.lt, h.lo9, h.lo11, h.docs⟩
theorem RndQ.alloc (h : RndQ W n br bk bw wc wd s X b9 b11 l9 l11 wx) (o : Obj) : RndQ W n br bk bw wc wd s X b9 b11 l9 l11 (wx.alloc o) := h.on ((Below.refl _ _).alloc (Nat.le_refl _) o)
theorem RndQ.setX (h : RndQ W n br bk bw wc wd s X b9 b11 l9 l11 wx) (i : Nat) (v : Value) : RndQ W n br bk bw wc wd s X b9 b11 (l9.set i v) l11 (wx.setCell ⟨b9, i, none⟩ v) := by
  have hP : Part [b9] wx (wx.setCell ⟨b9, i, none⟩ v) := Part.set (Part.refl _ _) (by simp) v
  exact ⟨h.st.off h.x h.lo9 hP (by decide) (by decide) (by decide), h.doc.part hP (fun q e => by simpa using h.doc.off h.x (by decide) q e), h.x.set i v, h.one.part hP (by simpa using h.one.ne h.x (by decide)), h.lo9, h.lo11, h.docs⟩
theorem RndQ.setO (h : RndQ W n br bk bw wc wd s X b9 b11 l9 l11 wx) (i : Nat) (v : Value) : RndQ W n br bk bw wc wd s X b9 b11 l9 (l11.set i v) (wx.setCell ⟨b11, i, none⟩ v) := by
  have hP : Part [b11] wx (wx.setCell ⟨b11, i, none⟩ v) := Part.set (Part.refl _ _) (by simp) v
  exact ⟨h.st.off h.one h.lo11 hP (by decide) (by decide) (by decide), h.doc.part hP (fun q e => by simpa using h.doc.off h.one (by decide) q e), h.x.part hP (by simpa using h.x.ne h.one (by decide)), h.one.set i v, h.lo9, h.lo11, h.docs⟩
theorem RndQ.put (h : RndQ W n br bk bw wc wd s X b9 b11 l9 l11 wx) (hR : Regs wy br bk bw ws') (hl : ws'.length = wc.length) (hP : Part [bw] wx wy) : RndQ W n br bk bw ws' wd s X b9 b11 l9 l11 wy :=
  ⟨h.st.step hR hl hP, h.doc.part hP (fun q e => by simpa using h.docs q e), h.x.part hP (by simpa using h.x.ne h.st.regs.words.row (by decide)), h.one.part hP (by simpa using h.one.ne h.st.regs.words.row (by decide)), h.lo9, h.lo11, h.docs⟩
theorem RndQ.calls (h : RndQ W n br bk bw ws ws s X b9 b11 l9 l11 wx) : CallsQ W n br bk bw ws s X wx := ⟨h.st, h.doc⟩
theorem calls_first {w1 w7 : World} {cap : Nat} (h : SnSt W n br bk bw ws w1) (hb : Below w1.heap.size w1 w7) (ho : w7.ownsRow w1.heap.size 39 1 (.slice (some ⟨w1.heap.size, 0, none⟩) n cap) n (u64s ws)) : CallsQ W n br bk bw ws (some ⟨w1.heap.size, 0, none⟩, n, cap) [w1.heap.size] w7 := by
  have hl := h.len
  subst hl
  exact ⟨h.on hb, .inr ⟨ownsRow_base ho h.low.size, rfl, fun q e => by simp [sl, Value.ownBlock] at e ⊢; omega⟩⟩
end
section
variable {W w w' w4 w5 : World} {n br bk bw b9 b11 b14 : Nat} {ws ws' wc wd xs : List Int} {s s' r : Option Addr × Nat × Nat} {X X' : List Nat} {l9 l11 l14 : List Value}
/-- behind Whole: what it has come to lies in its box -/
structure DoneQ (W : World) (n br bk bw : Nat) (ws : List Int) (s : Option Addr × Nat × Nat) (X : List Nat) (b9 b14 : Nat) (l9 : List Value) (r : Option Addr × Nat × Nat) (cl : Bool) (co : Int) (xs : List Int) (wx : World) : Prop where
  st : CallsQ W n br bk bw ws s X wx
  x : Row wx b9 37 l9
  vw : Row wx b14 43 [sl r, .bool cl, .int .i64 co]
  regs : RegsU W X wx r xs
theorem DoneQ.on {cl : Bool} {co : Int} (h : DoneQ W n br bk bw ws s X b9 b14 l9 r cl co xs w) (hb : Below w.heap.size w w') : DoneQ W n br bk bw ws s X b9 b14 l9 r cl co xs w' :=
  ⟨h.st.on hb, h.x.below hb h.x.lt, h.vw.below hb h.vw.lt, h.regs.on hb⟩
theorem RndQ.done {v0 v1 v2 : Value} {cl : Bool} {co : Int} (h : RndQ W n br bk bw ws' wd s X b9 b11 l9 l11 w4) (hb : Below (w4.alloc (.cells #[v0, v1, v2] 43)).heap.size (w4.alloc (.cells #[v0, v1, v2] 43)) w5) (hL : ListU W X' w5 s' ws') (hR : RegsU W X' w5 r xs) :
    DoneQ W n br bk bw ws' s' X' b9 w4.heap.size l9 r cl co xs (((w5.setCell ⟨w4.heap.size, 0, none⟩ (sl r)).setCell ⟨w4.heap.size, 1, none⟩ (.bool cl)).setCell ⟨w4.heap.size, 2, none⟩ (.int .i64 co)) := by
  have h5 := (h.alloc _).on hb
  have hv5 : Row w5 w4.heap.size 43 [v0, v1, v2] := (Row.new w4 _ _).below hb (by simp)
  have hP : Part [w4.heap.size] w5 (((w5.setCell ⟨w4.heap.size, 0, none⟩ (sl r)).setCell ⟨w4.heap.size, 1, none⟩ (.bool cl)).setCell ⟨w4.heap.size, 2, none⟩ (.int .i64 co)) := (((Part.refl _ _).set (by simp) _).set (by simp) _).set (by simp) _
  have hlo : W.heap.size ≤ w4.heap.size := h.st.low.size
  exact ⟨⟨h5.st.off hv5 hlo hP (by decide) (by decide) (by decide), hL.part hP (fun q e => by simpa using hL.off hv5 (by decide) q e)⟩, h5.x.part hP (by simpa using h5.x.ne hv5 (by decide)), ((hv5.set 0 _).set 1 _).set 2 _, hR.part hP (fun q e => by simpa using hR.off hv5 (by decide) q e)⟩
end
theorem Row.four4 {w : World} {b : Nat} {t : TypeId} {x0 x1 x2 x3 : Value} (h : Row w b t [x0, x1, x2, x3]) :
    w.cell? ⟨b, 0, none⟩ = some x0 ∧ w.cell? ⟨b, 1, none⟩ = some x1 ∧ w.cell? ⟨b, 2, none⟩ = some x2 ∧ w.cell? ⟨b, 3, none⟩ = some x3 := ⟨h.cell 0, h.cell 1, h.cell 2, h.cell 3⟩
theorem Row.two2 {w : World} {b : Nat} {t : TypeId} {x0 x1 : Value} (h : Row w b t [x0, x1]) :
    w.cell? ⟨b, 0, none⟩ = some x0 ∧ w.cell? ⟨b, 1, none⟩ = some x1 := ⟨h.cell 0, h.cell 1⟩
theorem dall_at {w : World} {A : Option Addr} {n c : Nat} {xs : List Int} (h : LiesU w A xs) (hu : ∀ x ∈ xs, U64 x) (hn : xs.length = n) (h0 : 0 < n) (hl : n ≤ 64) :
    Calls Try.prog 21 #[.slice A n c] w fun e w' => ∃ g cg, e = .returned (.slice (some ⟨g, 0, none⟩) n cg) ∧ w.heap.size ≤ g ∧ LiesR w' (some ⟨g, 0, none⟩) xs ∧ Below w.heap.size w w' := by
  refine (dall_any h hu hn (by omega)).mono ?_
  rintro e w' ⟨v, rfl, ho, hb⟩
  obtain ⟨g, cg, rfl, hg, _⟩ := own_some ho (by omega)
  rw [hn] at ho
  rw [hn]
  exact ⟨g, cg, rfl, hg, own_liesR ho, hb⟩
theorem rall_at {w : World} {br bk bw n : Nat} {ws : List Int} (h : Regs w br bk bw ws) (hn : ws.length = n) :
    Calls Try.prog 20 #[.pointer (some ⟨br, 0, none⟩)] w fun e w' => ∃ b, e = .returned (.slice (some ⟨b, 0, none⟩) n n) ∧ w.heap.size ≤ b ∧ Row w' b 60 (regCells ws) ∧ Below w.heap.size w w' := by
  subst hn
  exact rall_any h
theorem rput_at {w : World} {br bk bw : Nat} {ws ws2 : List Int} (h : Regs w br bk bw ws) {i : Nat} {x v y : Int} (hi : ws[i]? = some x) (hv : U32 v) (hy : afterW x v = y) (hw : ws.set i y = ws2) :
    Calls Try.prog 22 #[.pointer (some ⟨br, 0, none⟩), .int .i64 (i : Int), .int .u32 v] w (PutTo w br bk bw ws2 (.tuple #[.agg #[.int .u32 (numW y), .int .u32 (valW y)], .int .i64 0])) := by
  subst hw
  subst hy
  exact rput_any h hi hv
theorem rscan_at {w : World} {br bk bw n : Nat} {ws : List Int} (h : Regs w br bk bw ws) (hn : ws.length = n) {t : Int} (h1 : 2 ≤ t) (h2 : t ≤ 1024) :
    Calls Try.prog 24 #[.pointer (some ⟨br, 0, none⟩), .int .i64 t] w fun e w' => ∃ b, e = .returned (.tuple #[.slice (some ⟨b, 0, none⟩) n n, .int .i64 0]) ∧ w.heap.size ≤ b ∧ Row w' b 60 (regCells ws) ∧ Below w.heap.size w w' := by
  subst hn
  exact rscan_any h h1 h2
theorem rightS_put {n : Nat} {r v : Int} (h : rightS n 1 r v 0 = true) : 0 ≤ r ∧ r < (n : Int) := by simpa [rightS] using h
theorem rightS_get {n : Nat} {r : Int} (h : rightS n 2 r 0 0 = true) : 0 ≤ r ∧ r < (n : Int) := by simpa [rightS] using h
theorem rightS_scan {n : Nat} {t : Int} (h : rightS n 3 0 0 t = true) : 1 ≤ t ∧ t ≤ 1024 := by simpa [rightS] using h
theorem infoU64 : (Try.prog.info? 39).map (fun i => (i.zero, i.size, i.bytes)) = some (some (.int .u64 0), 1, 8) := by kernel_rfl
end Go.Proofs.Ytdadgppbpomdoaa
