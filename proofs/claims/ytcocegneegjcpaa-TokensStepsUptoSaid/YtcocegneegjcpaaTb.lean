/- THE WALKS of package tokens: New; right (the program's and the document's own); the calls on nil; end, spent. -/
import Derived.Test.YtcocegneegjcpaaTa
namespace Go.Proofs.Ytcocegneegjcpaa
open Go Go.RowKit

/-- what New leaves -/
def FreshB (w : World) (ev bu : Int) (e : Ending) (w' : World) : Prop :=
  ∃ bt bk bw, e = .returned (.tuple #[.pointer (some ⟨bt, 0, none⟩), .int .i64 0]) ∧ w.heap.size ≤ bt ∧ w.heap.size ≤ bk ∧ w.heap.size ≤ bw ∧ Buck w' bt bk bw ev bu 0 ∧ Below w.heap.size w w'
theorem tnew_no {w : World} {ev bu : Int} (h : fitsB ev bu = false) : Calls Try.prog 38 #[.int .i64 ev, .int .i64 bu] w fun e w' => e = .returned (.tuple #[.pointer none, .int .i64 2]) ∧ w = w' := by
  have H := Lib.hid h
  clear h
  go_enter Try.func38, Try.ntmps38
  go_wp2_with (go_at_call 72; refine (tsized_any _ _ _).mono ?_; rw [H.out]; rintro e w1 ⟨rfl, rfl⟩)
  go_ret2
  exact ⟨rfl, rfl⟩
theorem tnew_yes (w : World) {ev bu : Int} (h : fitsB ev bu = true) : Calls Try.prog 38 #[.int .i64 ev, .int .i64 bu] w (FreshB w ev bu) := by
  have H := Lib.hid h
  clear h
  go_enter Try.func38, Try.ntmps38
  go_wp2_with (first
    | (go_at_call 72; refine (tsized_any _ _ _).mono ?_; rw [H.out]; rintro e w1 ⟨rfl, rfl⟩)
    | (go_at_call 53; refine (new_yes _ (n := 1) (by omega)).mono ?_; rintro e w1 ⟨bk, bw, rfl, hk, hw, hW, hb⟩; have HK := Lib.hid hk; have HW := Lib.hid hw; have HS := Lib.hid hW; have HB := Lib.hid hb; clear hk hw hW hb))
  go_ret2
  have hs := HB.out.size
  exact ⟨w1.heap.size, bk, bw, rfl, hs, HK.out, HW.out, ⟨Row.new _ _ _, HS.out.alloc _, H.out, by omega, by omega⟩, HB.out.alloc hs _⟩

/-- is an operation right -/
def trightB (k t n : Int) : Bool := (k == 1 && (momB t && (decide (1 ≤ n) && decide (n ≤ 1048576)))) || (k == 2 && (momB t && n == 0))
set_option maxHeartbeats 1600000 in
theorem tright_any (k t n : Int) (w : World) :
    Calls Try.prog 75 #[.agg #[.int .u8 k, .int .i64 t, .int .i64 n]] w fun e w' => e = .returned (.bool (trightB k t n)) ∧ Below w.heap.size w w' := by
  have hB : ∀ o, Below w.heap.size w (w.alloc o) := fun o => (Below.refl _ _).alloc (Nat.le_refl _) o
  have HB := Lib.hid hB
  clear hB
  cases hm : momB t with
  | false =>
    have HM := Lib.hid hm
    clear hm
    by_cases h1 : k = 1
    · subst h1
      go_enter Try.func75, Try.ntmps75
      go_wp2_with (go_at_call 91; refine (tmoment_any _ _).mono ?_; rw [HM.out]; rintro e w1 ⟨rfl, rfl⟩)
      go_ret
      exact ⟨by simp [trightB, HM.out], HB.out _⟩
    have e1 : (k == 1) = false := by simpa using h1
    by_cases h2 : k = 2
    · subst h2
      go_enter Try.func75, Try.ntmps75
      go_wp2_with (go_at_call 91; refine (tmoment_any _ _).mono ?_; rw [HM.out]; rintro e w1 ⟨rfl, rfl⟩)
      go_ret
      exact ⟨by simp [trightB, HM.out], HB.out _⟩
    have e2 : (k == 2) = false := by simpa using h2
    go_enter Try.func75, Try.ntmps75
    go_wp2
    go_ret
    exact ⟨by simp [trightB, h1, h2], HB.out _⟩
  | true =>
    have HM := Lib.hid hm
    clear hm
    by_cases h1 : k = 1
    · subst h1
      by_cases h3 : 1 ≤ n
      · by_cases h4 : n ≤ 1048576
        · go_enter Try.func75, Try.ntmps75
          go_wp2_with (go_at_call 91; refine (tmoment_any _ _).mono ?_; rw [HM.out]; rintro e w1 ⟨rfl, rfl⟩)
          go_ret
          exact ⟨by simp [trightB, HM.out, h3, h4], HB.out _⟩
        · have hd : decide (n ≤ 1048576) = false := by simpa using h4
          go_enter Try.func75, Try.ntmps75
          go_wp2_with (go_at_call 91; refine (tmoment_any _ _).mono ?_; rw [HM.out]; rintro e w1 ⟨rfl, rfl⟩)
          go_ret
          exact ⟨by simp [trightB]; intros; omega, HB.out _⟩
      · have hd : decide (1 ≤ n) = false := by simpa using h3
        go_enter Try.func75, Try.ntmps75
        go_wp2_with (go_at_call 91; refine (tmoment_any _ _).mono ?_; rw [HM.out]; rintro e w1 ⟨rfl, rfl⟩)
        go_ret
        exact ⟨by simp [trightB]; intros; omega, HB.out _⟩
    have e1 : (k == 1) = false := by simpa using h1
    by_cases h2 : k = 2
    · subst h2
      by_cases h3 : n = 0
      · subst h3
        go_enter Try.func75, Try.ntmps75
        go_wp2_with (go_at_call 91; refine (tmoment_any _ _).mono ?_; rw [HM.out]; rintro e w1 ⟨rfl, rfl⟩)
        go_ret
        exact ⟨by simp [trightB, HM.out], HB.out _⟩
      · have hd : (n == 0) = false := by simpa using h3
        go_enter Try.func75, Try.ntmps75
        go_wp2_with (go_at_call 91; refine (tmoment_any _ _).mono ?_; rw [HM.out]; rintro e w1 ⟨rfl, rfl⟩)
        go_ret
        exact ⟨by simp [trightB, h3], HB.out _⟩
    have e2 : (k == 2) = false := by simpa using h2
    go_enter Try.func75, Try.ntmps75
    go_wp2
    go_ret
    exact ⟨by simp [trightB, h1, h2], HB.out _⟩

/-- the nine cells of a pending operation -/
def pendT (bt : Nat) (t n saw put : Int) (nx : Value) (ok : Bool) (wait left : Int) : List Value := [.pointer (some ⟨bt, 0, none⟩), .int .i64 t, .int .i64 n, .int .u64 saw, .int .u64 put, nx, .bool ok, .int .i64 wait, .int .i64 left]
def fnV (f : FuncId) : Value := .func (.func f) #[] #[]
theorem pendT_cells {w : World} {bp bt : Nat} {t n saw put wait left : Int} {nx : Value} {ok : Bool} (h : Row w bp 140 (pendT bt t n saw put nx ok wait left)) :
    w.cell? ⟨bp, 0, none⟩ = some (.pointer (some ⟨bt, 0, none⟩)) ∧ w.cell? ⟨bp, 1, none⟩ = some (.int .i64 t) ∧ w.cell? ⟨bp, 2, none⟩ = some (.int .i64 n) ∧ w.cell? ⟨bp, 3, none⟩ = some (.int .u64 saw) ∧
    w.cell? ⟨bp, 4, none⟩ = some (.int .u64 put) ∧ w.cell? ⟨bp, 5, none⟩ = some nx ∧ w.cell? ⟨bp, 6, none⟩ = some (.bool ok) ∧ w.cell? ⟨bp, 7, none⟩ = some (.int .i64 wait) ∧ w.cell? ⟨bp, 8, none⟩ = some (.int .i64 left) :=
  ⟨h.cell 0, h.cell 1, h.cell 2, h.cell 3, h.cell 4, h.cell 5, h.cell 6, h.cell 7, h.cell 8⟩

theorem ret_int {k : IntKind} {a b : Int} (h : a = b) : Ending.returned (.int k a) = .returned (.int k b) := by rw [h]
theorem tspent_any {w : World} {bp bt : Nat} {t n saw put wait left T : Int} {nx : Value} {ok : Bool} (h : Row w bp 140 (pendT bt t n saw put nx ok wait left)) (h0 : 0 ≤ T) (h1 : T ≤ 3458764513820540928) :
    Calls Try.prog 92 #[.pointer (some ⟨bp, 0, none⟩), .int .u64 T] w fun e w' => e = .returned (.int .i64 (max T t)) ∧ w = w' := by
  obtain ⟨c0, c1, c2, c3, c4, c5, c6, c7, c8⟩ := pendT_cells h
  clear h
  go_enter Try.func92, Try.ntmps92
  go_wp2
  all_goals
    go_ret
    exact ⟨ret_int (by omega), rfl⟩
theorem tend_any {w : World} {bp bt : Nat} {t n saw put wait left wait' left' : Int} {nx : Value} {ok ok' : Bool} (h : Row w bp 140 (pendT bt t n saw put nx ok wait left)) :
    Calls Try.prog 94 #[.pointer (some ⟨bp, 0, none⟩), .agg #[.bool ok', .int .i64 wait', .int .i64 left']] w fun e w' => e = .returned (.tuple #[]) ∧ Row w' bp 140 (pendT bt t n saw put .nilFunc ok' wait' left') ∧ Part [bp] w w' := by
  obtain ⟨c0, c1, c2, c3, c4, c5, c6, c7, c8⟩ := pendT_cells h
  have hf := h.free
  have hlt := h.lt
  have H := Lib.hid h
  clear h
  go_enter Try.func94, Try.ntmps94
  go_wp2
  go_end0
  refine ⟨rfl, Row.of_eq (((((H.out.set 6 _).set 7 _).set 8 _).set 5 _).alloc _) (by simp [pendT]), ?_⟩
  refine Part.alloc ?_ _
  repeat (refine Part.set ?_ (by simp) _)
  exact Part.refl _ _
end Go.Proofs.Ytcocegneegjcpaa
