/- THE WALKS of package gauges: New, Start, Done, Answer, end, wants. -/
import Derived.Test.YtcocegneegjcpaaGa
import Derived.Test.YtcocegneegjcpaaOw
namespace Go.Proofs.Ytcocegneegjcpaa
open Go Go.RowKit

theorem Part.on {S : List Nat} {w w1 w2 : World} (h : Part S w w1) (hb : Below w1.heap.size w1 w2) : Part S w w2 := h.then_ (Part.of_below hb (Nat.le_refl _) S)
theorem Part.end_ {w w1 : World} (h : Part [] w w1) : Below w.heap.size w w1 := h.below (Nat.le_refl _) (by simp)
theorem Row.of_eq {w : World} {b : Nat} {t : TypeId} {l l' : List Value} (h : Row w b t l) (e : l = l') : Row w b t l' := e ▸ h
theorem Words.drewN {w : World} {bk bw : Nat} {ws : List Int} (h : Words w bk bw ws) (n : Nat) : Words (w.drewN n) bk bw ws := ⟨h.head, h.row, h.few, h.ok⟩
theorem Row.drewN {w : World} {b : Nat} {t : TypeId} {l : List Value} (h : Row w b t l) (n : Nat) : Row (w.drewN n) b t l := h

/-- a gauge at block bg, its word T -/
structure Gau (w : World) (bg bk bw : Nat) (T : Nat) : Prop where
  head : Row w bg 111 [.pointer (some ⟨bk, 0, none⟩)]
  words : Words w bk bw [(T : Int)]
  ok : B64 T
section
variable {w w' : World} {bg bk bw T T' : Nat}
theorem Gau.part {S : List Nat} (h : Gau w bg bk bw T) (hp : Part S w w') (h0 : bg ∉ S) (h1 : bk ∉ S) (h2 : bw ∉ S) : Gau w' bg bk bw T := ⟨h.head.part hp h0, h.words.part hp h1 h2, h.ok⟩
theorem Gau.on (h : Gau w bg bk bw T) (hb : Below w.heap.size w w') : Gau w' bg bk bw T := h.part (Part.of_below hb (Nat.le_refl _) []) (by simp) (by simp) (by simp)
theorem Gau.alloc (h : Gau w bg bk bw T) (o : Obj) : Gau (w.alloc o) bg bk bw T := ⟨h.head.alloc o, h.words.alloc o, h.ok⟩
theorem Gau.ne (h : Gau w bg bk bw T) : bg ≠ bw := h.head.ne h.words.row (by decide)
theorem Gau.next {S : List Nat} (h : Gau w bg bk bw T) (hP : Part S w w') (hW : Words w' bk bw [(T' : Int)]) (h0 : bg ∉ S) (hT : B64 T') : Gau w' bg bk bw T' := ⟨h.head.part hP h0, hW, hT⟩
theorem Gau.u64 (h : Gau w bg bk bw T) : U64 (T : Int) := by have := h.ok; unfold B64 at this; unfold U64; omega
end
theorem b64_u64 {T : Nat} (h : B64 T) : U64 (T : Int) := by unfold B64 at h; unfold U64; omega

/-- what New leaves -/
def FreshG (w : World) (e : Ending) (w' : World) : Prop :=
  ∃ bg bk bw, e = .returned (.pointer (some ⟨bg, 0, none⟩)) ∧ w.heap.size ≤ bg ∧ w.heap.size ≤ bk ∧ w.heap.size ≤ bw ∧ Gau w' bg bk bw 0 ∧ Below w.heap.size w w'
theorem gnew_any (w : World) : Calls Try.prog 8 #[] w (FreshG w) := by
  go_enter Try.func8, Try.ntmps8
  go_wp2_with (go_at_call 53; refine (new_yes _ (n := 1) (by omega)).mono ?_; rintro e w1 ⟨bk, bw, rfl, hk, hw, hW, hb⟩; have HK := Lib.hid hk; have HW := Lib.hid hw; have HS := Lib.hid hW; have HB := Lib.hid hb; clear hk hw hW hb)
  go_ret
  have hs := HB.out.size
  exact ⟨w1.heap.size, bk, bw, rfl, hs, HK.out, HW.out, ⟨Row.new _ _ _, HS.out.alloc _, by unfold B64; omega⟩, HB.out.alloc hs _⟩

theorem run_store_float (a : Addr) (n : Nat) (m : Mode) (w : World) : (store a (.float .f64 n) m).run Try.prog w = stored Try.prog w a (.float .f64 n) m := run_store Try.prog w a _ m rfl
/-- the seven cells of a pending operation -/
def pendG (bk : Nat) (k : Int) (x saw put : Nat) (nx : Value) (ans : Nat) : List Value := [.pointer (some ⟨bk, 0, none⟩), .int .u8 k, .float .f64 x, .int .u64 (saw : Int), .int .u64 (put : Int), nx, .float .f64 ans]
def fnV (f : FuncId) : Value := .func (.func f) #[] #[]
theorem pendG_cells {w : World} {bp bk : Nat} {k : Int} {x saw put ans : Nat} {nx : Value} (h : Row w bp 115 (pendG bk k x saw put nx ans)) :
    w.cell? ⟨bp, 0, none⟩ = some (.pointer (some ⟨bk, 0, none⟩)) ∧ w.cell? ⟨bp, 1, none⟩ = some (.int .u8 k) ∧ w.cell? ⟨bp, 2, none⟩ = some (.float .f64 x) ∧ w.cell? ⟨bp, 3, none⟩ = some (.int .u64 (saw : Int)) ∧
    w.cell? ⟨bp, 4, none⟩ = some (.int .u64 (put : Int)) ∧ w.cell? ⟨bp, 5, none⟩ = some nx ∧ w.cell? ⟨bp, 6, none⟩ = some (.float .f64 ans) :=
  ⟨h.cell 0, h.cell 1, h.cell 2, h.cell 3, h.cell 4, h.cell 5, h.cell 6⟩

theorem geql_nil_nil (w : World) : (binOp BinOp.eql 113 Value.nilFunc Value.nilFunc).run Try.prog w = .ok (.bool true) w := by kernel_rfl
theorem geql_fn_nil (f : FuncId) (w : World) : (binOp BinOp.eql 113 (.func (.func f) #[] #[]) Value.nilFunc).run Try.prog w = .ok (.bool false) w := by kernel_rfl
set_option maxRecDepth 100000
section
variable {w : World} {bp bk : Nat} {k : Int} {x saw put ans : Nat} {f : FuncId}
theorem gdone_no (h : Row w bp 115 (pendG bk k x saw put (fnV f) ans)) :
    Calls Try.prog 15 #[.pointer (some ⟨bp, 0, none⟩)] w fun e w' => e = .returned (.bool false) ∧ w = w' := by
  obtain ⟨c0, c1, c2, c3, c4, c5, c6⟩ := pendG_cells h
  unfold fnV at c5
  have q3 := geql_fn_nil
  clear h
  go_enter Try.func15, Try.ntmps15
  go_wp2
  go_ret
  exact ⟨rfl, rfl⟩
theorem gdone_yes (h : Row w bp 115 (pendG bk k x saw put .nilFunc ans)) :
    Calls Try.prog 15 #[.pointer (some ⟨bp, 0, none⟩)] w fun e w' => e = .returned (.bool true) ∧ w = w' := by
  obtain ⟨c0, c1, c2, c3, c4, c5, c6⟩ := pendG_cells h
  have q1 := geql_nil_nil
  clear h
  go_enter Try.func15, Try.ntmps15
  go_wp2
  go_ret
  exact ⟨rfl, rfl⟩
theorem ganswer_any {nx : Value} (h : Row w bp 115 (pendG bk k x saw put nx ans)) :
    Calls Try.prog 17 #[.pointer (some ⟨bp, 0, none⟩)] w fun e w' => e = .returned (.float .f64 ans) ∧ w = w' := by
  obtain ⟨c0, c1, c2, c3, c4, c5, c6⟩ := pendG_cells h
  clear h
  go_enter Try.func17, Try.ntmps17
  go_wp2
  go_ret
  exact ⟨rfl, rfl⟩
theorem gend_any {nx : Value} (h : Row w bp 115 (pendG bk k x saw put nx ans)) (a : Nat) :
    Calls Try.prog 83 #[.pointer (some ⟨bp, 0, none⟩), .int .u64 (a : Int)] w fun e w' => e = .returned (.tuple #[]) ∧ Row w' bp 115 (pendG bk k x saw put .nilFunc a) ∧ Part [bp] w w' := by
  obtain ⟨c0, c1, c2, c3, c4, c5, c6⟩ := pendG_cells h
  have hf := h.free
  have hlt := h.lt
  have hb := run_frombits a w
  have st := run_store_float
  have H := Lib.hid h
  clear h
  go_enter Try.func83, Try.ntmps83
  go_wp2
  go_end0
  refine ⟨rfl, Row.of_eq ((H.out.set 6 _).set 5 _) (by simp [pendG]), ?_⟩
  repeat (refine Part.set ?_ (by simp) _)
  exact Part.refl _ _
end

/-- is an operation right -/
def grightB (k : Int) (x : Nat) : Bool := (k == 1 && decide (x = 0 ∨ x = 9223372036854775808)) || (decide (2 ≤ k) && decide (k ≤ 5))
/-- what Start leaves, of an operation that is right: an operation of its own -/
def BegunG (w : World) (l : List Value) (e : Ending) (w' : World) : Prop :=
  ∃ bp, e = .returned (.tuple #[.pointer (some ⟨bp, 0, none⟩), .int .i64 0]) ∧ w.heap.size ≤ bp ∧ Row w' bp 115 l ∧ Below w.heap.size w w'
def firstG (k : Int) : FuncId := if k = 2 then 56 else 55
theorem bne_of {α : Type} [BEq α] {a b : α} {c : Bool} (h : (a == b) = c) : (a != b) = !c := by unfold bne; rw [h]
theorem gstart_no {w : World} {bg bk : Nat} {k : Int} {x : Nat} (hg : Row w bg 111 [.pointer (some ⟨bk, 0, none⟩)]) (lx : B64 x) (h : grightB k x = false) :
    Calls Try.prog 11 #[.pointer (some ⟨bg, 0, none⟩), .agg #[.int .u8 k, .float .f64 x]] w fun e w' => e = .returned (.tuple #[.pointer none, .int .i64 10]) ∧ Below w.heap.size w w' := by
  have g0 := hg.cell 0
  have glt := hg.lt
  have hz : (FloatKind.f64.format.order x 0 == some .eq) = decide (x = 0 ∨ x = 9223372036854775808) := GM.zero_eq lx
  simp [grightB] at h
  clear hg lx
  by_cases h1 : k = 1
  · subst h1
    have hx := h.1 rfl
    rw [decide_eq_false (by omega)] at hz
    have hz' := bne_of hz
    clear h hx
    go_enter Try.func11, Try.ntmps11
    go_wp2
    go_region
    all_goals
      go_wp2
      go_ret2
      refine ⟨rfl, ?_⟩
      repeat (first | exact Below.refl _ _ | refine Below.drew ?_ | refine Below.alloc ?_ (by simp; try omega) _ | refine Below.setCell ?_ (by simp) _)
  · have e1 : (k == 1) = false := by simpa using h1
    have e2 : (k == 2) = false := by simp; omega
    have e3 : (k == 3) = false := by simp; omega
    have e4 : (k == 4) = false := by simp; omega
    have e5 : (k == 5) = false := by simp; omega
    clear h h1 hz
    go_enter Try.func11, Try.ntmps11
    go_wp2
    go_region
    all_goals
      go_wp2
      go_ret2
      refine ⟨rfl, ?_⟩
      repeat (first | exact Below.refl _ _ | refine Below.drew ?_ | refine Below.alloc ?_ (by simp; try omega) _ | refine Below.setCell ?_ (by simp) _)
theorem gstart_get {w : World} {bg bk : Nat} {x : Nat} (hg : Row w bg 111 [.pointer (some ⟨bk, 0, none⟩)]) (hx : x = 0 ∨ x = 9223372036854775808) (lx : B64 x) :
    Calls Try.prog 11 #[.pointer (some ⟨bg, 0, none⟩), .agg #[.int .u8 1, .float .f64 x]] w (BegunG w (pendG bk 1 x 0 0 (fnV 55) 0)) := by
  have g0 := hg.cell 0
  have glt := hg.lt
  have hz : (FloatKind.f64.format.order x 0 == some .eq) = decide (x = 0 ∨ x = 9223372036854775808) := GM.zero_eq lx
  rw [decide_eq_true hx] at hz
  have hz' := bne_of hz
  clear hx lx
  clear hg
  go_enter Try.func11, Try.ntmps11
  go_wp2
  go_region
  all_goals
    go_wp2
    go_ret2
    refine ⟨_, rfl, ?_, Row.new2 w _ 115 (pendG _ _ _ _ _ _ _) rfl, ?_⟩
    · simp
    · repeat (first | exact Below.refl _ _ | refine Below.drew ?_ | refine Below.alloc ?_ (by simp; try omega) _ | refine Below.setCell ?_ (by simp) _)
theorem gstart_set {w : World} {bg bk : Nat} {x : Nat} (hg : Row w bg 111 [.pointer (some ⟨bk, 0, none⟩)]) :
    Calls Try.prog 11 #[.pointer (some ⟨bg, 0, none⟩), .agg #[.int .u8 2, .float .f64 x]] w (BegunG w (pendG bk 2 x 0 0 (fnV 56) 0)) := by
  have g0 := hg.cell 0
  have glt := hg.lt
  clear hg
  go_enter Try.func11, Try.ntmps11
  go_wp2
  go_region
  all_goals
    go_wp2
    go_ret2
    refine ⟨_, rfl, ?_, Row.new2 w _ 115 (pendG _ _ _ _ _ _ _) rfl, ?_⟩
    · simp
    · repeat (first | exact Below.refl _ _ | refine Below.drew ?_ | refine Below.alloc ?_ (by simp; try omega) _ | refine Below.setCell ?_ (by simp) _)
theorem gstart_add {w : World} {bg bk : Nat} {x : Nat} (hg : Row w bg 111 [.pointer (some ⟨bk, 0, none⟩)]) :
    Calls Try.prog 11 #[.pointer (some ⟨bg, 0, none⟩), .agg #[.int .u8 3, .float .f64 x]] w (BegunG w (pendG bk 3 x 0 0 (fnV 55) 0)) := by
  have g0 := hg.cell 0
  have glt := hg.lt
  clear hg
  go_enter Try.func11, Try.ntmps11
  go_wp2
  go_region
  all_goals
    go_wp2
    go_ret2
    refine ⟨_, rfl, ?_, Row.new2 w _ 115 (pendG _ _ _ _ _ _ _) rfl, ?_⟩
    · simp
    · repeat (first | exact Below.refl _ _ | refine Below.drew ?_ | refine Below.alloc ?_ (by simp; try omega) _ | refine Below.setCell ?_ (by simp) _)
theorem gstart_max {w : World} {bg bk : Nat} {x : Nat} (hg : Row w bg 111 [.pointer (some ⟨bk, 0, none⟩)]) :
    Calls Try.prog 11 #[.pointer (some ⟨bg, 0, none⟩), .agg #[.int .u8 4, .float .f64 x]] w (BegunG w (pendG bk 4 x 0 0 (fnV 55) 0)) := by
  have g0 := hg.cell 0
  have glt := hg.lt
  clear hg
  go_enter Try.func11, Try.ntmps11
  go_wp2
  go_region
  all_goals
    go_wp2
    go_ret2
    refine ⟨_, rfl, ?_, Row.new2 w _ 115 (pendG _ _ _ _ _ _ _) rfl, ?_⟩
    · simp
    · repeat (first | exact Below.refl _ _ | refine Below.drew ?_ | refine Below.alloc ?_ (by simp; try omega) _ | refine Below.setCell ?_ (by simp) _)
theorem gstart_min {w : World} {bg bk : Nat} {x : Nat} (hg : Row w bg 111 [.pointer (some ⟨bk, 0, none⟩)]) :
    Calls Try.prog 11 #[.pointer (some ⟨bg, 0, none⟩), .agg #[.int .u8 5, .float .f64 x]] w (BegunG w (pendG bk 5 x 0 0 (fnV 55) 0)) := by
  have g0 := hg.cell 0
  have glt := hg.lt
  clear hg
  go_enter Try.func11, Try.ntmps11
  go_wp2
  go_region
  all_goals
    go_wp2
    go_ret2
    refine ⟨_, rfl, ?_, Row.new2 w _ 115 (pendG _ _ _ _ _ _ _) rfl, ?_⟩
    · simp
    · repeat (first | exact Below.refl _ _ | refine Below.drew ?_ | refine Below.alloc ?_ (by simp; try omega) _ | refine Below.setCell ?_ (by simp) _)
end Go.Proofs.Ytcocegneegjcpaa
