/- THE WALKS of package snap: Done, end, Clone, Answer; what lies behind an action. -/
import Derived.Test.YtdadgppbpomdoaaPe
import Derived.Test.YtdadgppbpomdoaaEz
import Derived.Deep.Cut
import Derived.Deep.CutRange
import Derived.Deep.DeepCutAuto
import Derived.Deep.RegionHeld3
namespace Go.Proofs.Ytdadgppbpomdoaa
open Go Go.RowKit

/-- the thirteen cells of a pending operation -/
def pendP (bk : Nat) (k r v t : Int) (nx : Value) (saw : Int) (va vw : Value) (c : Int) (vr : Value) (cl : Bool) (vc : Int) : List Value :=
  [.pointer (some ⟨bk, 0, none⟩), .int .u8 k, .int .i64 r, .int .u32 v, .int .i64 t, nx, .int .u64 saw, va, vw, .int .i64 c, vr, .bool cl, .int .i64 vc]
def fnV (f : FuncId) : Value := .func (.func f) #[] #[]
def nilS : Value := .slice none 0 0
section
variable {w : World} {bp bk : Nat} {k r v t saw c vc : Int} {nx va vw vr : Value} {cl : Bool}
theorem pendP_cells (h : Row w bp 82 (pendP bk k r v t nx saw va vw c vr cl vc)) :
    w.cell? ⟨bp, 0, none⟩ = some (.pointer (some ⟨bk, 0, none⟩)) ∧ w.cell? ⟨bp, 1, none⟩ = some (.int .u8 k) ∧ w.cell? ⟨bp, 2, none⟩ = some (.int .i64 r) ∧ w.cell? ⟨bp, 3, none⟩ = some (.int .u32 v) ∧
    w.cell? ⟨bp, 4, none⟩ = some (.int .i64 t) ∧ w.cell? ⟨bp, 5, none⟩ = some nx ∧ w.cell? ⟨bp, 6, none⟩ = some (.int .u64 saw) ∧ w.cell? ⟨bp, 7, none⟩ = some va ∧ w.cell? ⟨bp, 8, none⟩ = some vw ∧
    w.cell? ⟨bp, 9, none⟩ = some (.int .i64 c) ∧ w.cell? ⟨bp, 10, none⟩ = some vr ∧ w.cell? ⟨bp, 11, none⟩ = some (.bool cl) ∧ w.cell? ⟨bp, 12, none⟩ = some (.int .i64 vc) :=
  ⟨h.cell 0, h.cell 1, h.cell 2, h.cell 3, h.cell 4, h.cell 5, h.cell 6, h.cell 7, h.cell 8, h.cell 9, h.cell 10, h.cell 11, h.cell 12⟩
end

theorem peql_nil_nil (w : World) : (binOp BinOp.eql 80 Value.nilFunc Value.nilFunc).run Try.prog w = .ok (.bool true) w := by kernel_rfl
theorem peql_fn_nil (f : FuncId) (w : World) : (binOp BinOp.eql 80 (.func (.func f) #[] #[]) Value.nilFunc).run Try.prog w = .ok (.bool false) w := by kernel_rfl
set_option maxRecDepth 100000
section
variable {w : World} {bp bk : Nat} {k r v t saw c vc : Int} {nx va vw vr : Value} {cl : Bool} {f : FuncId}
theorem pdone_no (h : Row w bp 82 (pendP bk k r v t (fnV f) saw va vw c vr cl vc)) :
    Calls Try.prog 16 #[.pointer (some ⟨bp, 0, none⟩)] w fun e w' => e = .returned (.bool false) ∧ w = w' := by
  obtain ⟨c0, c1, c2, c3, c4, c5, _⟩ := pendP_cells h
  unfold fnV at c5
  have q3 := peql_fn_nil
  clear h
  go_enter Try.func16, Try.ntmps16
  go_wp2
  go_ret
  exact ⟨rfl, rfl⟩
theorem pdone_yes (h : Row w bp 82 (pendP bk k r v t .nilFunc saw va vw c vr cl vc)) :
    Calls Try.prog 16 #[.pointer (some ⟨bp, 0, none⟩)] w fun e w' => e = .returned (.bool true) ∧ w = w' := by
  obtain ⟨c0, c1, c2, c3, c4, c5, _⟩ := pendP_cells h
  have q1 := peql_nil_nil
  clear h
  go_enter Try.func16, Try.ntmps16
  go_wp2
  go_ret
  exact ⟨rfl, rfl⟩
theorem pend_any {a : Option Addr} {la ca : Nat} {cl' : Bool} {vc' : Int} (h : Row w bp 82 (pendP bk k r v t nx saw va vw c vr cl vc)) :
    Calls Try.prog 47 #[.pointer (some ⟨bp, 0, none⟩), .agg #[.slice a la ca, .bool cl', .int .i64 vc']] w fun e w' => e = .returned (.tuple #[]) ∧ Row w' bp 82 (pendP bk k r v t .nilFunc saw va vw c (.slice a la ca) cl' vc') ∧ Part [bp] w w' := by
  obtain ⟨c0, c1, c2, c3, c4, c5, c6, c7, c8, c9, c10, c11, c12⟩ := pendP_cells h
  have hf := h.free
  have hlt := h.lt
  have hne : ¬ bp = w.heap.size := by omega
  have H := Lib.hid h
  clear h
  go_enter Try.func47, Try.ntmps47
  go_wp2
  go_end0
  refine ⟨rfl, Row.of_eq (((((H.out.set 10 _).set 11 _).set 12 _).set 5 _).alloc _) (by simp [pendP]), ?_⟩
  repeat (first | exact Part.refl _ _ | refine Part.alloc ?_ _ | refine Part.set ?_ (by simp) _)
end

theorem row_at {w : World} {b : Nat} {t : TypeId} {l : List Value} (h : Row w b t l) : ∀ j u, l[j]? = some u → w.cell? ((⟨b, 0, none⟩ : Addr).add j) = some u := fun j u hj => by
  rw [add_zero_]
  exact (h.cell j).trans hj
theorem reg_cells_one (xs : List Int) : ∀ u ∈ regCells xs, u.oneCell' = true := by
  intro u hu
  unfold regCells at hu
  rw [List.mem_flatMap] at hu
  obtain ⟨x, _, hu⟩ := hu
  simp at hu
  rcases hu with rfl | rfl <;> rfl
theorem sreg_nil (w : World) : (binOp BinOp.eql 41 (.slice none 0 0) (.slice none 0 0)).run Try.prog w = .ok (.bool true) w := by kernel_rfl
theorem sreg_some (a : Addr) (n c : Nat) (w : World) : (binOp BinOp.eql 41 (.slice (some a) n c) (.slice none 0 0)).run Try.prog w = .ok (.bool false) w := by kernel_rfl
theorem ownsRow_base {w : World} {base base' : Nat} {e : TypeId} {size : Nat} {v : Value} {n : Nat} {xs : List Value} (h : w.ownsRow base e size v n xs) (hb : base' ≤ base) : w.ownsRow base' e size v n xs := by
  obtain ⟨h1, h2⟩ := h
  refine ⟨h1, ?_⟩
  rcases h2 with h2 | ⟨g, cap, cur, hv, hg, r⟩
  · exact Or.inl h2
  · exact Or.inr ⟨g, cap, cur, hv, Nat.le_trans hb hg, r⟩
/-- registers of new memory -/
def NewRegs (w : World) (b c : Nat) (xs : List Int) (w' : World) : Prop := w.heap.size ≤ b ∧ w'.ownsRow w.heap.size 60 2 (.slice (some ⟨b, 0, none⟩) xs.length c) xs.length (regCells xs) ∧ Below w.heap.size w w'
theorem clone_any {w : World} {b c : Nat} {xs : List Int} (h : Row w b 60 (regCells xs)) (h0 : 0 < xs.length) (hl : xs.length ≤ 1000000) :
    Calls Try.prog 36 #[.slice (some ⟨b, 0, none⟩) xs.length c] w fun e w' => ∃ b' c', e = .returned (.slice (some ⟨b', 0, none⟩) xs.length c') ∧ NewRegs w b' c' xs w' := by
  obtain ⟨i0, hi, hz0, hz1, hz2⟩ := info_parts infoReg
  have hws : ¬ xs = [] := by rintro rfl; simp at h0
  have HP := Lib.hid h0
  have H3 : Hid (0 + xs.length ≤ maxLen) := Lib.hid (by unfold maxLen; omega)
  have H4 : Hid ((0 + xs.length) * 8 ≤ 140737488355328) := Lib.hid (by omega)
  have HK0 : Hid ((w.alloc (.cells #[] 60)).ownsRow w.heap.size 60 2 (.slice (some ⟨w.heap.size, 0, none⟩) 0 0) 0 []) := Lib.hid (own_of_row (Row.new w _ []) rfl (Nat.le_refl _) (Nat.zero_le _))
  have H := Lib.hid h
  have q1 := sreg_some
  clear h h0
  go_enter Try.func36, Try.ntmps36
  go_wp2_with (at_builtin; refine wpList_append_own _ rfl _ _ 41 rfl w.heap.size 60 i0 (.agg #[.int .u32 0, .int .u32 0]) 2 8 Try.underlying41 hi hz0 hz1 hz2 rfl (by decide) _ _ _ rfl HK0.out ⟨b, 0, none⟩ xs.length c (regCells xs) rfl (regCells_length xs) (row_at (H.out.alloc _)) (reg_cells_one xs) H3.out H4.out (by simp) ?_; intro vk w6 hown6 hgr6 hz6; rw [Nat.zero_add, List.nil_append] at hown6; have HG6 : Hid ((w.alloc (.cells #[] 60)).grownBy w6 (some w.heap.size)) := Lib.hid hgr6; obtain ⟨gk, ck, rfl, hgk, hlk⟩ := own_some hown6 HP.out; have HK6 := Lib.hid hown6; have HGK := Lib.hid hgk; clear hown6 hgr6 hz6 hgk hlk)
  go_ret
  exact ⟨gk, ck, rfl, HGK.out, HK6.out, ((Below.refl _ _).alloc (Nat.le_refl _) _).grown HG6.out (by simp) (fun q hq => by cases hq; exact Nat.le_refl _)⟩
theorem clone_nil (w : World) :
    Calls Try.prog 36 #[.slice none 0 0] w fun e w' => e = .returned (.slice none 0 0) ∧ w = w' := by
  have q1 := sreg_nil
  go_enter Try.func36, Try.ntmps36
  go_wp2
  go_ret
  exact ⟨rfl, rfl⟩
theorem Row.three {w : World} {b : Nat} {t : TypeId} {x0 x1 x2 : Value} (h : Row w b t [x0, x1, x2]) : w.cell? ⟨b, 0, none⟩ = some x0 ∧ w.cell? ⟨b, 1, none⟩ = some x1 ∧ w.cell? ⟨b, 2, none⟩ = some x2 := ⟨h.cell 0, h.cell 1, h.cell 2⟩
section
variable {w : World} {bp bk : Nat} {k r v t saw c vc : Int} {nx va vw vr : Value} {cl : Bool}
theorem panswer_none (h : Row w bp 82 (pendP bk k r v t nx saw va vw c nilS false 0)) :
    Calls Try.prog 18 #[.pointer (some ⟨bp, 0, none⟩)] w fun e w' => e = .returned noView ∧ Below w.heap.size w w' := by
  obtain ⟨c0, c1, c2, c3, c4, c5, c6, c7, c8, c9, c10, c11, c12⟩ := pendP_cells h
  unfold nilS at c10
  have hlt := h.lt
  have hne : ¬ bp = w.heap.size := by omega
  clear h
  go_enter Try.func18, Try.ntmps18
  go_wp2_with (go_at_call 36; refine (clone_nil _).mono ?_; rintro e wx ⟨rfl, rfl⟩)
  refine bodyPost_ret (v := noView) (by simp [results, Try.results18, go_sem, noView]) rfl ⟨rfl, ?_⟩
  repeat (first | exact Below.refl _ _ | refine Below.alloc ?_ (by simp; try omega) _ | refine Below.setCell ?_ (by simp) _)
theorem panswer_any {b n c' : Nat} {xs : List Int} (h : Row w bp 82 (pendP bk k r v t nx saw va vw c (.slice (some ⟨b, 0, none⟩) n c') cl vc)) (hb : Row w b 60 (regCells xs)) (hn : xs.length = n) (h0 : 0 < n) (hl : n ≤ 1000000) :
    Calls Try.prog 18 #[.pointer (some ⟨bp, 0, none⟩)] w fun e w' => ∃ b' cb, e = .returned (.agg #[.slice (some ⟨b', 0, none⟩) n cb, .bool cl, .int .i64 vc]) ∧ w.heap.size ≤ b' ∧ w'.ownsRow w.heap.size 60 2 (.slice (some ⟨b', 0, none⟩) n cb) n (regCells xs) ∧ Below w.heap.size w w' := by
  subst hn
  obtain ⟨c0, c1, c2, c3, c4, c5, c6, c7, c8, c9, c10, c11, c12⟩ := pendP_cells h
  have hlt := h.lt
  have hne : ¬ bp = w.heap.size := by omega
  have HB := Lib.hid hb
  have H0 := Lib.hid h0
  clear h hb h0
  go_enter Try.func18, Try.ntmps18
  go_wp2_with (go_at_call 36; refine (clone_any ((HB.out.alloc _).alloc _) H0.out hl).mono ?_; rintro e w2 ⟨b2, cb, rfl, hlo2, hown2, hb2⟩; have HL2 := Lib.hid hlo2; have HO2 := Lib.hid hown2; have HB2 := Lib.hid hb2; have hr0 := Row.one hb2; have hr1 := Row.two hb2; obtain ⟨d0, d1, d2⟩ := hr0.three; obtain ⟨e0, e1, e2⟩ := hr1.three; have ef0 := hr0.free; have ef1 := hr1.free; have el0 := hr0.lt; have el1 := hr1.lt; clear hr0 hr1 hlo2 hown2 hb2)
  refine bodyPost_ret (v := .agg #[.slice (some ⟨b2, 0, none⟩) xs.length cb, .bool cl, .int .i64 vc]) (by simp [results, Try.results18, go_sem, d0, d1, d2]) rfl ⟨b2, cb, rfl, ?_⟩
  have hl2 := HL2.out
  simp only [World.size_alloc] at hl2
  suffices hE : Part [w.heap.size, w.heap.size + 1] w2 _ from
    ⟨by omega, ownsRow_base (own_part HO2.out hE (fun q hq => by cases hq; simp; omega)) (by simp; omega), (((Below.refl _ _).alloc (Nat.le_refl _) _).alloc (by simp) _ |>.trans (HB2.out.mono (by simp; omega))).trans (hE.below (by have := HB2.out.size; simp at this; omega) (by simp))⟩
  repeat (first | exact Part.refl _ _ | refine Part.set ?_ (by simp) _)
end
end Go.Proofs.Ytdadgppbpomdoaa
