/- THE WALK of the law 'RingSteps'. -/
import Derived.Test.YtjehcgeodcpcaaaKv
import Derived.Test.YtjehcgeodcpcaaaKm
import Derived.Test.YtjehcgeodcpcaaaEy
import Derived.Deep.RegionHeld3
import Derived.BigQuiet
namespace Go.Proofs.Ytjehcgeodcpcaaa
open Go Go.RowKit

theorem dfault_at {wd k t n v : Int} {A : Option Addr} {len cap : Nat} (hw : 1 ≤ wd) (hw2 : wd ≤ 1152921504606846976) (ht : t ≤ 9223372036854775807) (hn : U64 n) (he : checkE wd k t n = v) (w : World) :
    Calls Try.prog 11 #[.agg #[.int .i64 wd, .slice A len cap], .agg #[.int .u8 k, .int .i64 t, .int .u64 n]] w fun e w' => e = .returned (.int .i64 v) ∧ Below w.heap.size w w' := he ▸ dfault_any hw hw2 ht hn w
theorem one_i64 (x : Int) : ∀ u ∈ [Value.int .i64 x], u.oneCell' = true := by intro u hu; simp at hu; subst hu; rfl
theorem four_i64 (x : Int) : ∀ u ∈ [Value.int .i64 x, .int .i64 x, .int .i64 x, .int .i64 x], u.oneCell' = true := by intro u hu; simp at hu; subst hu; rfl
theorem all_i64 (l : List Int) : ∀ u ∈ i64s l, u.oneCell' = true := by
  intro u hu
  simp [i64s] at hu
  obtain ⟨x, _, rfl⟩ := hu
  rfl
theorem ext_src {w : World} {B : Option Addr} {zs : List Int} (hX : Ext .i64 w B zs) : ∀ ad, B = some ad → ∀ j u, (i64s zs)[j]? = some u → w.cell? (ad.add j) = some u := by
  intro ad had j u hj
  have hx : ∃ x, zs[j]? = some x ∧ u = .int .i64 x := by
    simp only [i64s, List.getElem?_map] at hj
    obtain ⟨x, h1, h2⟩ := Option.map_eq_some_iff.1 hj
    exact ⟨x, h1, h2.symm⟩
  obtain ⟨x, h1, rfl⟩ := hx
  obtain ⟨b, o, e1, _, e2⟩ := hX j x h1
  rw [had] at e1
  cases e1
  rw [Addr.add_lit]
  exact e2
theorem own_of_rowU {w : World} {base b n : Nat} {xs : List Int} (h : Row w b 37 (u64s xs)) (hb : base ≤ b) (hn : xs.length = n) (hl : n ≤ maxLen) : w.ownsRow base 37 1 (.slice (some ⟨b, 0, none⟩) n n) n (u64s xs) := by
  subst hn
  refine ⟨by simp [u64s], .inr ⟨b, xs.length, (u64s xs).toArray, rfl, hb, h, Nat.le_refl _, hl, by simp [u64s], ?_⟩⟩
  rw [List.take_of_length_le (by simp [u64s])]
/-- a box, none of the operations' -/
structure BoxN (W : World) (b : Nat) (t : TypeId) (l : List Value) (w : World) : Prop where
  row : Row w b t l
  lo : W.heap.size ≤ b
section
variable {W w1 w2 : World} {b : Nat} {t : TypeId} {l : List Value}
theorem BoxN.on (h : BoxN W b t l w1) (hb : Below w1.heap.size w1 w2) : BoxN W b t l w2 := ⟨h.row.below hb h.row.lt, h.lo⟩
theorem BoxN.part {S : List Nat} (h : BoxN W b t l w1) (hP : Part S w1 w2) (hS : b ∉ S) : BoxN W b t l w2 := ⟨h.row.part hP hS, h.lo⟩
theorem BoxN.new (hl : W.heap.size ≤ w1.heap.size) (l : List Value) : BoxN W w1.heap.size t l (w1.alloc (.cells l.toArray t)) := ⟨Row.new w1 t l, hl⟩
end
theorem stepN_same (ws : List Int) (o : OpN) : (stepN ws o).k = o.k ∧ (stepN ws o).n = o.n ∧ (stepN ws o).q = o.q := by
  unfold stepN
  repeat (first | exact ⟨rfl, rfl, rfl⟩ | split)
/-- behind the document's step: three boxes more -/
theorem box3 {W w1 : World} (hl : W.heap.size ≤ w1.heap.size) (l1 l2 l3 : List Value) (t1 t2 t3 : TypeId) : BoxN W w1.heap.size t1 l1 (((w1.alloc (.cells l1.toArray t1)).alloc (.cells l2.toArray t2)).alloc (.cells l3.toArray t3)) ∧ BoxN W (w1.heap.size + 1) t2 l2 (((w1.alloc (.cells l1.toArray t1)).alloc (.cells l2.toArray t2)).alloc (.cells l3.toArray t3)) ∧ BoxN W (w1.heap.size + 1 + 1) t3 l3 (((w1.alloc (.cells l1.toArray t1)).alloc (.cells l2.toArray t2)).alloc (.cells l3.toArray t3)) := by
  have h2 := Row.new (w1.alloc (.cells l1.toArray t1)) t2 l2
  have h3 := Row.new ((w1.alloc (.cells l1.toArray t1)).alloc (.cells l2.toArray t2)) t3 l3
  simp only [World.size_alloc] at h2 h3
  exact ⟨⟨((Row.new w1 t1 l1).alloc _).alloc _, hl⟩, ⟨h2.alloc _, by omega⟩, ⟨h3, by omega⟩⟩
theorem below3 {w1 : World} (o1 o2 o3 : Obj) : Below w1.heap.size w1 (((w1.alloc o1).alloc o2).alloc o3) := (((Below.refl _ _).alloc (Nat.le_refl _) _).alloc (by simp) _).alloc (by simp; omega) _
/-- a block's cells, as far as they are known -/
def BoxC (b : Nat) (l : List Value) (w : World) : Prop := b < w.heap.size ∧ ∀ j u, l[j]? = some u → w.cell? ⟨b, j, none⟩ = some u
theorem BoxC.part {b : Nat} {l : List Value} {w w' : World} {S : List Nat} (h : BoxC b l w) (hp : Part S w w') (hS : b ∉ S) : BoxC b l w' := ⟨Nat.lt_of_lt_of_le h.1 hp.size, fun j u hj => by
  have e := hp.block b h.1 hS
  have := h.2 j u hj
  unfold World.cell? at this ⊢
  simp only [e]
  exact this⟩
theorem BoxC.on {b : Nat} {l : List Value} {w w' : World} (h : BoxC b l w) (hb : Below w.heap.size w w') : BoxC b l w' := h.part (Part.of_below hb (Nat.le_refl _) []) (by simp)
/-- the stores into the three boxes -/
def ringSet (w : World) (b : Nat) (v0 v1 : Value) : World := (w.setCell ⟨b, 0, none⟩ v0).setCell ⟨b, 1, none⟩ v1
def dnSet (w : World) (b : Nat) (x : DN) : World := ((((((((((w).setCell ⟨b, 0, none⟩ (.int .u8 x.k)).setCell ⟨b, 1, none⟩ (.int .i64 x.t)).setCell ⟨b, 2, none⟩ (.int .u64 x.n)).setCell ⟨b, 3, none⟩ (.bool x.bg)).setCell ⟨b, 4, none⟩ (.bool x.ld)).setCell ⟨b, 5, none⟩ (.int .u64 x.saw)).setCell ⟨b, 6, none⟩ (.int .i64 x.nx)).setCell ⟨b, 7, none⟩ (.bool x.en)).setCell ⟨b, 8, none⟩ (.int .u64 x.sm)).setCell ⟨b, 9, none⟩ (.int .i64 x.why)
def didSet (w : World) (b : Nat) (d0 d1 d2 d3 : Int) (d4 : Bool) : World := ((((w.setCell ⟨b, 0, none⟩ (.int .u8 d0)).setCell ⟨b, 1, none⟩ (.int .i64 d1)).setCell ⟨b, 2, none⟩ (.int .u64 d2)).setCell ⟨b, 3, none⟩ (.int .u64 d3)).setCell ⟨b, 4, none⟩ (.bool d4)
theorem ringSet_part (w : World) (b : Nat) (v0 v1 : Value) : Part [b] w (ringSet w b v0 v1) := ((Part.refl [b] w).set (by simp) _).set (by simp) _
theorem dnSet_part (w : World) (b : Nat) (x : DN) : Part [b] w (dnSet w b x) := by
  unfold dnSet
  repeat (first | (with_reducible exact Part.refl _ _) | refine Part.set ?_ (by simp) _)
theorem didSet_part (w : World) (b : Nat) (d0 d1 d2 d3 : Int) (d4 : Bool) : Part [b] w (didSet w b d0 d1 d2 d3 d4) := by
  unfold didSet
  repeat (first | (with_reducible exact Part.refl _ _) | refine Part.set ?_ (by simp) _)
theorem not_sing {b b' : Nat} (h : b ≠ b') : b ∉ [b'] := fun e => h (List.mem_singleton.1 e)
theorem ringSet_below {w w' : World} {lo b : Nat} (h : Below lo w w') (hb : lo ≤ b) (v0 v1 : Value) : Below lo w (ringSet w' b v0 v1) := (h.setCell hb _).setCell hb _
theorem dnSet_below {w w' : World} {lo b : Nat} (h : Below lo w w') (hb : lo ≤ b) (x : DN) : Below lo w (dnSet w' b x) := (((((((((h.setCell hb _).setCell hb _).setCell hb _).setCell hb _).setCell hb _).setCell hb _).setCell hb _).setCell hb _).setCell hb _).setCell hb _
theorem didSet_below {w w' : World} {lo b : Nat} (h : Below lo w w') (hb : lo ≤ b) (d0 d1 d2 d3 : Int) (d4 : Bool) : Below lo w (didSet w' b d0 d1 d2 d3 d4) := ((((h.setCell hb _).setCell hb _).setCell hb _).setCell hb _).setCell hb _
theorem below_more {w w' : World} (h : Below w.heap.size w w') (o : Obj) : Below w.heap.size w (w'.alloc o) := h.alloc h.size o
theorem row_new (w : World) (b : Nat) (hb : w.heap.size = b) (t : TypeId) (l : List Value) : Row (w.alloc (.cells l.toArray t)) b t l := hb ▸ Row.new w t l
theorem ringSet_row {w : World} {b : Nat} {t : TypeId} {u0 u1 : Value} (h : Row w b t [u0, u1]) (v0 v1 : Value) : Row (ringSet w b v0 v1) b t [v0, v1] := (h.set 0 _).set 1 _
theorem dnSet_row {w : World} {b : Nat} {t : TypeId} {u0 u1 u2 u3 u4 u5 u6 u7 u8 u9 : Value} (h : Row w b t [u0, u1, u2, u3, u4, u5, u6, u7, u8, u9]) (x : DN) : Row (dnSet w b x) b t x.cells := (((((((((h.set 0 _).set 1 _).set 2 _).set 3 _).set 4 _).set 5 _).set 6 _).set 7 _).set 8 _).set 9 _
theorem didSet_row {w : World} {b : Nat} {t : TypeId} {u0 u1 u2 u3 u4 : Value} (h : Row w b t [u0, u1, u2, u3, u4]) (d0 d1 d2 d3 : Int) (d4 : Bool) : Row (didSet w b d0 d1 d2 d3 d4) b t [.int .u8 d0, .int .i64 d1, .int .u64 d2, .int .u64 d3, .bool d4] := ((((h.set 0 _).set 1 _).set 2 _).set 3 _).set 4 _
theorem ndone_at {w : World} {bp br : Nat} {o : OpN} {la : Bool} (h : Row w bp 77 (opNL br o)) (h2 : o.ph ≤ 2) (hl : decide (o.ph = 2) = la) :
    Calls Try.prog 16 #[.pointer (some ⟨bp, 0, none⟩)] w fun e w' => e = .returned (.bool la) ∧ w = w' := hl ▸ ndone_op h h2
theorem row_a11 (w : World) (l : List Value) (t : TypeId) : Row (w.alloc (.cells l.toArray t)).drew w.heap.size t l := Row.new w t l
theorem row_a21 (w : World) (l : List Value) (t : TypeId) (o : Obj) : Row ((w.alloc (.cells l.toArray t)).alloc o).drew w.heap.size t l := (Row.new w t l).alloc _
theorem row_a22 (w : World) (l : List Value) (t : TypeId) (o : Obj) : Row ((w.alloc o).alloc (.cells l.toArray t)).drew (w.heap.size + 1) t l := by have := Row.new (w.alloc o) t l; simp only [World.size_alloc] at this; exact this
theorem row_a31 (w : World) (l : List Value) (t : TypeId) (o o' : Obj) : Row (((w.alloc (.cells l.toArray t)).alloc o).alloc o').drew w.heap.size t l := ((Row.new w t l).alloc _).alloc _
theorem row_a32 (w : World) (l : List Value) (t : TypeId) (o o' : Obj) : Row (((w.alloc o).alloc (.cells l.toArray t)).alloc o').drew (w.heap.size + 1) t l := by have := (Row.new (w.alloc o) t l).alloc o'; simp only [World.size_alloc] at this; exact this
theorem row_a33 (w : World) (l : List Value) (t : TypeId) (o o' : Obj) : Row (((w.alloc o).alloc o').alloc (.cells l.toArray t)).drew (w.heap.size + 1 + 1) t l := by have := Row.new ((w.alloc o).alloc o') t l; simp only [World.size_alloc] at this; exact this
theorem did_fiveN (ws : List Int) (o : OpN) : ∃ d0 d1 d2 d3 d4, didN ws o = .agg #[.int .u8 d0, .int .i64 d1, .int .u64 d2, .int .u64 d3, .bool d4] := by
  unfold didN
  split
  · exact ⟨_, _, _, _, _, rfl⟩
  · split
    · split
      · exact ⟨_, _, _, _, _, rfl⟩
      · exact ⟨_, _, _, _, _, rfl⟩
    · exact ⟨_, _, _, _, _, rfl⟩
theorem answer_two (o : OpN) : ∃ an wy, answerN o = .tuple #[.int .u64 an, .int .i64 wy] := by
  unfold answerN
  split
  · exact ⟨_, _, rfl⟩
  · exact ⟨_, _, rfl⟩
set_option maxRecDepth 100000
set_option maxHeartbeats 6400000
/-- the document's Answer -/
theorem dans_any {len : Nat} {t : Int} {o : OpN} {x : DN} (hk : o.k = 1 ∨ o.k = 2) (hd : DocN len t o x) (w : World) :
    Calls Try.prog 15 #[.agg x.cells.toArray] w fun e w' => e = .returned (answerN o) ∧ Below w.heap.size w w' := by
  obtain ⟨k, t', n, bg, ld, saw, nx, en, sm, why⟩ := x
  have hen := hd.en
  simp only at hen
  unfold DN.cells undN
  by_cases h2 : o.ph = 2
  · have hE : en = true := by rw [hen]; simpa using h2
    subst hE
    obtain ⟨o1, o2, o3⟩ := hd.over h2
    simp only at o1 o2
    have ha : answerN o = .tuple #[.int .u64 o.ans, .int .i64 o.why] := by unfold answerN; rw [if_pos h2]
    by_cases h0 : o.why = 0
    · have hw : why = 0 := o1.trans h0
      subst hw
      have HA : Hid (answerN o = .tuple #[.int .u64 sm, .int .i64 0]) := Lib.hid (by rw [ha, h0, o2 h0])
      clear hen hd o1 o2 o3 ha h0 h2
      go_enter Try.func15, Try.ntmps15
      go_wp2
      go_ret2
      exact ⟨by rw [HA.out]; rfl, (Below.refl _ _).alloc (Nat.le_refl _) _⟩
    · have hwb : (why != 0) = true := by rw [o1]; simpa using h0
      have HA : Hid (answerN o = .tuple #[.int .u64 0, .int .i64 why]) := Lib.hid (by rw [ha, o1, o3 h0])
      clear hen hd o1 o2 o3 ha h0 h2
      go_enter Try.func15, Try.ntmps15
      go_wp2
      go_quiet (fail)
      go_wp2
      go_ret2
      exact ⟨by rw [HA.out]; rfl, Below.draws ((Below.refl _ _).alloc (Nat.le_refl _) _) _⟩
  · have hE : en = false := by rw [hen]; simpa using h2
    subst hE
    have hw : why = 0 := by
      rcases hk with hk | hk
      · exact (hd.add hk h2).2.2.2.2
      · exact (hd.sum hk h2).2.2.2.1
    subst hw
    have HA : Hid (answerN o = .tuple #[.int .u64 0, .int .i64 0]) := Lib.hid (by unfold answerN; rw [if_neg h2])
    clear hen hd h2
    go_enter Try.func15, Try.ntmps15
    go_wp2
    go_quiet (fail)
    go_wp2
    go_ret2
    exact ⟨by rw [HA.out]; rfl, Below.draws ((Below.refl _ _).alloc (Nat.le_refl _) _) _⟩
theorem rsteps_no {n wd : Int} (hn : n < 1 ∨ 4096 < n ∨ wd < 1 ∨ 1152921504606846976 < wd) {A B : Option Addr} {len cap len' cap' : Nat} (W : World) :
    Calls Try.prog 3 #[.int .i64 n, .int .i64 wd, .slice A len cap, .slice B len' cap'] W fun e w' => e = .returned (.bool true) ∧ Below W.heap.size W w' := by
  have HN := Lib.hid hn
  clear hn
  go_enter Try.func3, Try.ntmps3
  go_wp2_with (first
    | (go_at_call 7; refine (lives_any _).mono ?_; rintro e w0 ⟨rfl, hb⟩; have HB0 := Lib.hid hb; clear hb)
    | (go_at_call 8; refine (rnew_no HN.out _).mono ?_; rintro e w' ⟨rfl, rfl⟩)
    | (go_at_call 9; refine (dnew_no HN.out _).mono ?_; rintro e w1 ⟨rfl, hb⟩; have HB1 := Lib.hid hb; clear hb))
  go_ret
  exact ⟨rfl, (HB0.out.trans (HB1.out.mono HB0.out.size)).trans ((Below.refl _ _).alloc (by have h1 := HB0.out.size; have h2 := HB1.out.size; omega) _)⟩
end Go.Proofs.Ytjehcgeodcpcaaa
