/- THE WALKS of the document's semaphore: steps by kind and place. -/
import Derived.Test.YtamigipljgijlaaNy
namespace Go.Proofs.Ytamigipljgijlaa
open Go Go.RowKit
set_option maxRecDepth 100000
set_option maxHeartbeats 6400000
theorem stepS_k (pl d g : Int) (o : OpS) : (stepS pl d g o).k = o.k := by
  unfold stepS
  repeat' split
  all_goals rfl
theorem OkS.step {o : OpS} (pl d g : Int) (h : OkS o) : OkS (stepS pl d g o) := by
  obtain ⟨k, ph, a, b, ans, why⟩ := o
  rcases h with h | ⟨hk, hp⟩
  · dsimp only at h
    subst h
    simp [stepS, OkS]
  · dsimp only at hk hp
    rcases hp with rfl | rfl | ⟨rfl, h2⟩
    · unfold stepS OkS
      simp only [if_true]
      split
      · exact .inr ⟨hk, .inr (.inl rfl)⟩
      · exact .inr ⟨hk, .inr (.inl rfl)⟩
    · rcases hk with rfl | rfl | rfl | rfl <;> simp [stepS, OkS] <;> split <;> simp
    · rcases h2 with rfl | rfl <;> simp [stepS, OkS] <;> split <;> simp
/-- an operation that nobody disturbs: its places are 0, 1, .. and then the end -/
structure Alone (pl k : Int) (m : Nat) (D G : Nat → Int) (O : Nat → OpS) : Prop where
  nx : ∀ i, i < m → stepS pl (D i) (G i) (O i) = O (i + 1) ∧ stepD (D i) (O i) = D (i + 1) ∧ stepG (G i) (O i) = G (i + 1)
  live : ∀ i, i < m → (O i).ph = i
  last : (O m).ph = 9
  few : m ≤ 3
  new_ : O 0 = newS k
theorem Alone.kind {pl k : Int} {m : Nat} {D G : Nat → Int} {O : Nat → OpS} (h : Alone pl k m D G O) : ∀ i, i ≤ m → (O i).k = k
  | 0, _ => by rw [h.new_]; rfl
  | i + 1, hi => by rw [← (h.nx i (by omega)).1, stepS_k]; exact h.kind i (by omega)
theorem Alone.ok {pl k : Int} {m : Nat} {D G : Nat → Int} {O : Nat → OpS} (h : Alone pl k m D G O) (hk : k = 1 ∨ k = 2 ∨ k = 3 ∨ k = 4) : ∀ i, i ≤ m → OkS (O i)
  | 0, _ => by rw [h.new_]; exact .inr ⟨hk, .inl rfl⟩
  | i + 1, hi => by rw [← (h.nx i (by omega)).1]; exact (h.ok hk i (by omega)).step _ _ _
/-- Step, over numbers that are letters -/
theorem dsstep_at {pl d g d2 g2 : Int} {o o2 : OpS} {u : DocS} (ho : OkS o) (hi : InvS o u) (h1 : stepS pl d g o = o2) (h2 : stepD d o = d2) (h3 : stepG g o = g2) (w : World) :
    Calls Try.prog 11 #[.agg #[.int .u64 pl, .int .u64 d, .int .u64 g], .agg (undS o.k u).toArray] w fun e w' => ∃ ap fi la su wy x0 x1 x2 x3 x4, InvS o2 ⟨ap, fi, la, decide (o2.ph = 9), su, wy⟩ ∧ didS d g o = #[.int .u8 x0, .int .i64 x1, .int .u64 x2, .int .u64 x3, .bool x4] ∧ e = .returned (.tuple #[.agg #[.int .u64 pl, .int .u64 d2, .int .u64 g2], .agg #[.int .u8 o.k, .int .i64 ap, .int .u64 fi, .int .u64 la, .bool (decide (o2.ph = 9)), .int .u64 su, .int .i64 wy], .agg #[.int .u8 x0, .int .i64 x1, .int .u64 x2, .int .u64 x3, .bool x4]]) ∧ Below w.heap.size w w' := by
  subst h1 h2 h3
  obtain ⟨x0, x1, x2, x3, x4, hx⟩ := did_five_s d g o
  refine (dsstep_op (pl := pl) (d := d) (g := g) ho hi w).mono ?_
  rintro e w' ⟨⟨ap, fi, la, en, su, wy⟩, hi', rfl, hb⟩
  have he : en = decide ((stepS pl d g o).ph = 9) := by
    rcases hi' with ⟨a, b, _⟩ | ⟨a, b, _⟩
    · rw [decide_eq_true a]; exact b
    · rw [decide_eq_false a]; exact b
  subst he
  exact ⟨ap, fi, la, su, wy, x0, x1, x2, x3, x4, hi', hx, by rw [hx]; rfl, hb⟩
/-- how far it is from its end -/
def muC (b : Nat) (wr : World) : Nat := match wr.cell? ⟨b, 1, none⟩, wr.cell? ⟨b, 4, none⟩ with
  | some (.int _ a), some (.bool en) => if en then 0 else 4 - a.toNat
  | _, _ => 0
theorem muC_row {wr : World} {b : Nat} {k : Int} {u : DocS} {t : TypeId} (h : Row wr b t (undS k u)) : muC b wr = if u.en then 0 else 4 - u.at_.toNat := by
  have e1 : wr.cell? ⟨b, 1, none⟩ = some (.int .i64 u.at_) := h.cell 1
  have e4 : wr.cell? ⟨b, 4, none⟩ = some (.bool u.en) := h.cell 4
  unfold muC
  rw [e1, e4]
structure DoR (w : World) (b0 b4 b7 : Nat) (pl k d g : Int) (u : DocS) (wr : World) : Prop where
  r : Row wr b0 31 [.int .u64 pl, .int .u64 d, .int .u64 g]
  z : Row wr b4 31 [.int .u64 0, .int .u64 0, .int .u64 0]
  p : Row wr b7 40 (undS k u)
  lo : w.heap.size ≤ b0 ∧ b0 < b4 ∧ b4 < b7
  low : Below w.heap.size w wr
theorem DoR.on {w wr w1 : World} {b0 b4 b7 : Nat} {pl k d g : Int} {u : DocS} (h : DoR w b0 b4 b7 pl k d g u wr) (hb : Below wr.heap.size wr w1) : DoR w b0 b4 b7 pl k d g u w1 :=
  ⟨h.r.below hb h.r.lt, h.z.below hb h.z.lt, h.p.below hb h.p.lt, h.lo, h.low.trans (hb.mono h.low.size)⟩
theorem doR_begin (w : World) (pl k d g : Int) : DoR w w.heap.size (w.heap.size + 1) (w.heap.size + 1 + 1) pl k d g ⟨0, 0, 0, false, 0, 0⟩ (((w.alloc (.cells #[.int .u64 pl, .int .u64 d, .int .u64 g] 31)).alloc (.cells #[.int .u64 0, .int .u64 0, .int .u64 0] 31)).alloc (.cells #[.int .u8 k, .int .i64 0, .int .u64 0, .int .u64 0, .bool false, .int .u64 0, .int .i64 0] 40)) := by
  have h1 := Row.new (w.alloc (.cells #[.int .u64 pl, .int .u64 d, .int .u64 g] 31)) 31 [.int .u64 0, .int .u64 0, .int .u64 0]
  have h2 := Row.new ((w.alloc (.cells #[.int .u64 pl, .int .u64 d, .int .u64 g] 31)).alloc (.cells #[.int .u64 0, .int .u64 0, .int .u64 0] 31)) 40 (undS k ⟨0, 0, 0, false, 0, 0⟩)
  simp only [World.size_alloc] at h1 h2
  exact ⟨((Row.new w 31 [.int .u64 pl, .int .u64 d, .int .u64 g]).alloc _).alloc _, h1.alloc _, h2, ⟨Nat.le_refl _, by omega, by omega⟩, (((Below.refl _ _).alloc (Nat.le_refl _) _).alloc (by simp) _).alloc (by simp; omega) _⟩
/-- the ten stores -/
def doSet (w : World) (b0 b7 : Nat) (pl k d g : Int) (u : DocS) : World := (((((((((w.setCell ⟨b0, 0, none⟩ (.int .u64 pl)).setCell ⟨b0, 1, none⟩ (.int .u64 d)).setCell ⟨b0, 2, none⟩ (.int .u64 g)).setCell ⟨b7, 0, none⟩ (.int .u8 k)).setCell ⟨b7, 1, none⟩ (.int .i64 u.at_)).setCell ⟨b7, 2, none⟩ (.int .u64 u.fi)).setCell ⟨b7, 3, none⟩ (.int .u64 u.la)).setCell ⟨b7, 4, none⟩ (.bool u.en)).setCell ⟨b7, 5, none⟩ (.int .u64 u.su)).setCell ⟨b7, 6, none⟩ (.int .i64 u.wy)
theorem DoR.next {w wr : World} {b0 b4 b7 : Nat} {pl k d g d2 g2 : Int} {u u2 : DocS} (h : DoR w b0 b4 b7 pl k d g u wr) : DoR w b0 b4 b7 pl k d2 g2 u2 (doSet wr b0 b7 pl k d2 g2 u2) := by
  obtain ⟨hr, hz, hp, hl, hb⟩ := h
  obtain ⟨ap, fi, la, en, su, wy⟩ := u2
  obtain ⟨ap0, fi0, la0, en0, su0, wy0⟩ := u
  have hp : Row wr b7 40 [.int .u8 k, .int .i64 ap0, .int .u64 fi0, .int .u64 la0, .bool en0, .int .u64 su0, .int .i64 wy0] := hp
  unfold doSet
  have y70 : ¬ b7 = b0 := by omega
  have y07 : ¬ b0 = b7 := by omega
  have y04 : ¬ b0 = b4 := by omega
  have y74 : ¬ b7 = b4 := by omega
  refine ⟨?_, ?_, ?_, hl, ?_⟩
  · exact Row.of_eq (Row.far (Row.far (Row.far (Row.far (Row.far (Row.far (Row.far (Row.set (Row.set (Row.set hr 0 _) 1 _) 2 _) (p := ⟨b7, 0, none⟩) y70 _) (p := ⟨b7, 1, none⟩) y70 _) (p := ⟨b7, 2, none⟩) y70 _) (p := ⟨b7, 3, none⟩) y70 _) (p := ⟨b7, 4, none⟩) y70 _) (p := ⟨b7, 5, none⟩) y70 _) (p := ⟨b7, 6, none⟩) y70 _) rfl
  · exact Row.of_eq (Row.far (Row.far (Row.far (Row.far (Row.far (Row.far (Row.far (Row.far (Row.far (Row.far hz (p := ⟨b0, 0, none⟩) y04 _) (p := ⟨b0, 1, none⟩) y04 _) (p := ⟨b0, 2, none⟩) y04 _) (p := ⟨b7, 0, none⟩) y74 _) (p := ⟨b7, 1, none⟩) y74 _) (p := ⟨b7, 2, none⟩) y74 _) (p := ⟨b7, 3, none⟩) y74 _) (p := ⟨b7, 4, none⟩) y74 _) (p := ⟨b7, 5, none⟩) y74 _) (p := ⟨b7, 6, none⟩) y74 _) rfl
  · exact Row.of_eq (Row.set (Row.set (Row.set (Row.set (Row.set (Row.set (Row.set (Row.far (Row.far (Row.far hp (p := ⟨b0, 0, none⟩) y07 _) (p := ⟨b0, 1, none⟩) y07 _) (p := ⟨b0, 2, none⟩) y07 _) 0 _) 1 _) 2 _) 3 _) 4 _) 5 _) 6 _) rfl
  · repeat (first | (with_reducible exact hb) | (with_reducible refine Below.setCell ?_ (by (try simp); omega) _))
end Go.Proofs.Ytamigipljgijlaa
