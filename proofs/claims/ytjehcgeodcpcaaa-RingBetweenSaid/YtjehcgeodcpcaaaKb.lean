/- THE WALKS of package ring: check, Done, Answer, end, act, Start. -/
import Derived.Test.YtjehcgeodcpcaaaKa
import Derived.Deep.RegionHeld3
namespace Go.Proofs.Ytjehcgeodcpcaaa
open Go Go.RowKit

/-- what is wrong with an operation -/
def checkE (wd k t n : Int) : Int := if k ≠ 1 ∧ k ≠ 2 then 10 else if k = 2 ∧ n ≠ 0 then 10 else if t < 0 ∨ 4294967295 < t / wd ∨ 4294967295 < n then 2 else 0
set_option maxRecDepth 100000
theorem rcheck_any {wd k t n : Int} (hw : 1 ≤ wd) (hw2 : wd ≤ 1152921504606846976) (ht : t ≤ 9223372036854775807) (hn : U64 n) (w : World) :
    Calls Try.prog 26 #[.agg #[.int .u8 k, .int .i64 t, .int .u64 n], .int .i64 wd] w fun e w' => e = .returned (.int .i64 (checkE wd k t n)) ∧ Below w.heap.size w w' := by
  have hB : Hid (∀ o, Below w.heap.size w (w.alloc o)) := Lib.hid (fun o => (Below.refl _ _).alloc (Nat.le_refl _) o)
  have n0 := hn.1
  have n1 := hn.2
  clear hn
  by_cases k1 : k = 1
  · subst k1
    by_cases t0 : t < 0
    · have d0 : decide (t < 0) = true := by simpa using t0
      have HE : Hid (checkE wd 1 t n = 2) := Lib.hid (by simp [checkE, t0])
      clear t0
      go_enter Try.func26, Try.ntmps26
      go_wp2
      go_ret
      exact ⟨by rw [HE.out] <;> rfl, hB.out _⟩
    have t1 : 0 ≤ t := by omega
    have d0 : decide (t < 0) = false := by simpa using t1
    by_cases tm : 4294967295 < t / wd
    · have d1 : decide (4294967295 < t / wd) = true := by simpa using tm
      have HE : Hid (checkE wd 1 t n = 2) := Lib.hid (by simp [checkE, tm])
      clear t0 tm
      go_enter Try.func26, Try.ntmps26
      go_wp2
      go_ret
      exact ⟨by rw [HE.out] <;> rfl, hB.out _⟩
    have d1 : decide (4294967295 < t / wd) = false := by simpa using tm
    by_cases nm : 4294967295 < n
    · have d2 : decide (4294967295 < n) = true := by simpa using nm
      have HE : Hid (checkE wd 1 t n = 2) := Lib.hid (by simp [checkE, nm])
      clear t0 tm nm
      go_enter Try.func26, Try.ntmps26
      go_wp2
      go_ret
      exact ⟨by rw [HE.out] <;> rfl, hB.out _⟩
    have d2 : decide (4294967295 < n) = false := by simpa using nm
    have HE : Hid (checkE wd 1 t n = 0) := Lib.hid (by simp [checkE, t0, tm, nm])
    clear t0 tm nm
    go_enter Try.func26, Try.ntmps26
    go_wp2
    go_ret
    exact ⟨by rw [HE.out] <;> rfl, hB.out _⟩
  have e1 : (k == 1) = false := by simpa using k1
  have e1' : (k != 1) = true := by simpa using k1
  by_cases k2 : k = 2
  · subst k2
    by_cases hn0 : n = 0
    · subst hn0
      by_cases t0 : t < 0
      · have d0 : decide (t < 0) = true := by simpa using t0
        have HE : Hid (checkE wd 2 t 0 = 2) := Lib.hid (by simp [checkE, t0])
        clear t0
        go_enter Try.func26, Try.ntmps26
        go_wp2
        go_ret
        exact ⟨by rw [HE.out] <;> rfl, hB.out _⟩
      have t1 : 0 ≤ t := by omega
      have d0 : decide (t < 0) = false := by simpa using t1
      by_cases tm : 4294967295 < t / wd
      · have d1 : decide (4294967295 < t / wd) = true := by simpa using tm
        have HE : Hid (checkE wd 2 t 0 = 2) := Lib.hid (by simp [checkE, tm])
        clear t0 tm
        go_enter Try.func26, Try.ntmps26
        go_wp2
        go_ret
        exact ⟨by rw [HE.out] <;> rfl, hB.out _⟩
      have d1 : decide (4294967295 < t / wd) = false := by simpa using tm
      have HE : Hid (checkE wd 2 t 0 = 0) := Lib.hid (by simp [checkE, t0, tm])
      clear t0 tm
      go_enter Try.func26, Try.ntmps26
      go_wp2
      go_ret
      exact ⟨by rw [HE.out] <;> rfl, hB.out _⟩
    have en : (n == 0) = false := by simpa using hn0
    have en' : (n != 0) = true := by simpa using hn0
    have HE : Hid (checkE wd 2 t n = 10) := Lib.hid (by simp [checkE, hn0])
    clear hn0 k1
    go_enter Try.func26, Try.ntmps26
    go_wp2
    go_ret
    exact ⟨by rw [HE.out] <;> rfl, hB.out _⟩
  have e2 : (k == 2) = false := by simpa using k2
  have e2' : (k != 2) = true := by simpa using k2
  have HE : Hid (checkE wd k t n = 10) := Lib.hid (by simp [checkE, k1, k2])
  clear k1 k2
  go_enter Try.func26, Try.ntmps26
  go_wp2
  go_ret
  exact ⟨by rw [HE.out] <;> rfl, hB.out _⟩

/-- the nine cells of a pending operation -/
def pendN (br : Nat) (tick last n saw put : Int) (nx : Value) (ans why : Int) : List Value := [.pointer (some ⟨br, 0, none⟩), .int .i64 tick, .int .i64 last, .int .u64 n, .int .u64 saw, .int .u64 put, nx, .int .u64 ans, .int .i64 why]
def fnV (f : FuncId) : Value := .func (.func f) #[] #[]
theorem pendN_cells {w : World} {bp br : Nat} {tick last n saw put ans why : Int} {nx : Value} (h : Row w bp 77 (pendN br tick last n saw put nx ans why)) :
    w.cell? ⟨bp, 0, none⟩ = some (.pointer (some ⟨br, 0, none⟩)) ∧ w.cell? ⟨bp, 1, none⟩ = some (.int .i64 tick) ∧ w.cell? ⟨bp, 2, none⟩ = some (.int .i64 last) ∧ w.cell? ⟨bp, 3, none⟩ = some (.int .u64 n) ∧ w.cell? ⟨bp, 4, none⟩ = some (.int .u64 saw) ∧ w.cell? ⟨bp, 5, none⟩ = some (.int .u64 put) ∧ w.cell? ⟨bp, 6, none⟩ = some nx ∧ w.cell? ⟨bp, 7, none⟩ = some (.int .u64 ans) ∧ w.cell? ⟨bp, 8, none⟩ = some (.int .i64 why) :=
  ⟨h.cell 0, h.cell 1, h.cell 2, h.cell 3, h.cell 4, h.cell 5, h.cell 6, h.cell 7, h.cell 8⟩
theorem neql_nil_nil (w : World) : (binOp BinOp.eql 75 Value.nilFunc Value.nilFunc).run Try.prog w = .ok (.bool true) w := by kernel_rfl
theorem neql_fn_nil (f : FuncId) (w : World) : (binOp BinOp.eql 75 (.func (.func f) #[] #[]) Value.nilFunc).run Try.prog w = .ok (.bool false) w := by kernel_rfl
theorem nneq_nil_nil (w : World) : (binOp BinOp.neq 75 Value.nilFunc Value.nilFunc).run Try.prog w = .ok (.bool false) w := by kernel_rfl
theorem nneq_fn_nil (f : FuncId) (w : World) : (binOp BinOp.neq 75 (.func (.func f) #[] #[]) Value.nilFunc).run Try.prog w = .ok (.bool true) w := by kernel_rfl
section
variable {w : World} {bp br : Nat} {tick last n saw put ans why : Int} {f : FuncId}
theorem ndone_no (h : Row w bp 77 (pendN br tick last n saw put (fnV f) ans why)) :
    Calls Try.prog 16 #[.pointer (some ⟨bp, 0, none⟩)] w fun e w' => e = .returned (.bool false) ∧ w = w' := by
  obtain ⟨c0, c1, c2, c3, c4, c5, c6, c7, c8⟩ := pendN_cells h
  unfold fnV at c6
  have q3 := neql_fn_nil
  clear h
  go_enter Try.func16, Try.ntmps16
  go_wp2
  go_ret
  exact ⟨rfl, rfl⟩
theorem ndone_yes (h : Row w bp 77 (pendN br tick last n saw put .nilFunc ans why)) :
    Calls Try.prog 16 #[.pointer (some ⟨bp, 0, none⟩)] w fun e w' => e = .returned (.bool true) ∧ w = w' := by
  obtain ⟨c0, c1, c2, c3, c4, c5, c6, c7, c8⟩ := pendN_cells h
  have q1 := neql_nil_nil
  clear h
  go_enter Try.func16, Try.ntmps16
  go_wp2
  go_ret
  exact ⟨rfl, rfl⟩
theorem nanswer_no (h : Row w bp 77 (pendN br tick last n saw put (fnV f) ans why)) :
    Calls Try.prog 14 #[.pointer (some ⟨bp, 0, none⟩)] w fun e w' => e = .returned (.tuple #[.int .u64 0, .int .i64 0]) ∧ w = w' := by
  obtain ⟨c0, c1, c2, c3, c4, c5, c6, c7, c8⟩ := pendN_cells h
  unfold fnV at c6
  have q3 := nneq_fn_nil
  clear h
  go_enter Try.func14, Try.ntmps14
  go_wp2
  go_ret2
  exact ⟨rfl, rfl⟩
theorem nanswer_yes (h : Row w bp 77 (pendN br tick last n saw put .nilFunc ans why)) :
    Calls Try.prog 14 #[.pointer (some ⟨bp, 0, none⟩)] w fun e w' => e = .returned (.tuple #[.int .u64 ans, .int .i64 why]) ∧ ∃ m, w' = w.drewN m := by
  obtain ⟨c0, c1, c2, c3, c4, c5, c6, c7, c8⟩ := pendN_cells h
  have q1 := nneq_nil_nil
  clear h
  go_enter Try.func14, Try.ntmps14
  go_wp2
  go_quiet (fail)
  go_wp2
  go_ret2
  exact ⟨rfl, _, rfl⟩
theorem nend_any {nx : Value} (h : Row w bp 77 (pendN br tick last n saw put nx ans why)) (a e' : Int) :
    Calls Try.prog 37 #[.pointer (some ⟨bp, 0, none⟩), .int .u64 a, .int .i64 e'] w fun e w' => e = .returned (.tuple #[]) ∧ Row w' bp 77 (pendN br tick last n saw put .nilFunc a e') ∧ Part [bp] w w' := by
  obtain ⟨c0, c1, c2, c3, c4, c5, c6, c7, c8⟩ := pendN_cells h
  have hf := h.free
  have hlt := h.lt
  have H := Lib.hid h
  clear h
  go_enter Try.func37, Try.ntmps37
  go_wp2
  go_end0
  refine ⟨rfl, ?_, ?_⟩
  · exact Row.of_eq (((H.out.set 7 _).set 8 _).set 6 _) (by simp [pendN])
  repeat (refine Part.set ?_ (by simp) _)
  exact Part.refl _ _
end
end Go.Proofs.Ytjehcgeodcpcaaa
