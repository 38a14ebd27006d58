/- THE WALKS of the document's ring: New, Fault, least, Answer. -/
import Derived.Test.YtjehcgeodcpcaaaKm
namespace Go.Proofs.Ytjehcgeodcpcaaa
open Go Go.RowKit

/-- the document's window, as a value: its cells lie in block g -/
def bookV (wd : Int) (g k : Nat) : Value := .agg #[.int .i64 wd, .slice (some ⟨g, 0, none⟩) k k]
set_option maxRecDepth 100000
def FreshB (w : World) (k : Nat) (wd : Int) (e : Ending) (w' : World) : Prop :=
  ∃ g, e = .returned (.tuple #[bookV wd g k, .int .i64 0]) ∧ w.heap.size ≤ g ∧ Row w' g 37 (u64s (List.replicate k 0)) ∧ Below w.heap.size w w'
theorem dnew_yes (w : World) {k : Nat} {wd : Int} (h1 : 1 ≤ k) (h2 : k ≤ 4096) (h3 : 1 ≤ wd) (h4 : wd ≤ 1152921504606846976) : Calls Try.prog 9 #[.int .i64 (k : Int), .int .i64 wd] w (FreshB w k wd) := by
  obtain ⟨i0, hi, hz0, hz1, hz2⟩ := info_parts info29
  have d1 : decide ((k : Int) < 1) = false := by simp; omega
  have d2 : decide ((4096 : Int) < (k : Int)) = false := by simp; omega
  have d3 : decide (wd < 1) = false := by simpa using h3
  have d4 : decide (1152921504606846976 < wd) = false := by simpa using h4
  clear h3 h4
  go_enter Try.func9, Try.ntmps9
  go_wp2_with (at_make; refine wpList_make_full _ rfl _ _ 29 rfl w.heap.size 37 i0 (.int .u64 0) 1 Try.underlying29 hi hz0 hz1 .i64 .i64 k k k rfl rfl rfl rfl (by rw [hz2]; omega) (by unfold maxLen; omega) (by simp) ?_; intro w1 hown hgr; have hr := row_of_full hown; rw [noughts29] at hr; have HR := Lib.hid hr; have HG := Lib.hid hgr; have hz := (Row.new w 31 [.int .i64 0, .slice none 0 0]).grown hgr (by simp); have z0 := hz.cell 0; have z1 := hz.cell 1; have zf := hz.free; have zlt := hz.lt; clear hown hgr hr hz)
  refine bodyPost_ret (v := .tuple #[bookV wd (w.heap.size + 1) k, .int .i64 0]) (by simp [results, Try.results9, go_sem, bookV, z0, z1]) rfl ⟨w.heap.size + 1, rfl, by omega, ?_, ?_⟩
  · have h := HR.out
    rw [World.size_alloc] at h
    repeat (first | exact h | refine Row.far ?_ (by simp) _)
  · have h := HG.out
    repeat (first | exact ((Below.refl _ _).alloc (Nat.le_refl _) _).grown h (by simp) (by simp) | refine Below.setCell ?_ (by simp) _)
theorem dnew_no {k wd : Int} (h : k < 1 ∨ 4096 < k ∨ wd < 1 ∨ 1152921504606846976 < wd) (w : World) : Calls Try.prog 9 #[.int .i64 k, .int .i64 wd] w fun e w' => e = .returned (.tuple #[.agg #[.int .i64 0, .slice none 0 0], .int .i64 2]) ∧ Below w.heap.size w w' := by
  by_cases a : k < 1
  · have d : decide (k < 1) = true := by simpa using a
    clear h a
    go_enter Try.func9, Try.ntmps9
    go_wp2
    refine bodyPost_ret (v := .tuple #[.agg #[.int .i64 0, .slice none 0 0], .int .i64 2]) (by simp [results, Try.results9, go_sem]) rfl ⟨rfl, by repeat (first | exact Below.refl _ _ | refine Below.alloc ?_ (by simp; try omega) _ | refine Below.setCell ?_ (by simp) _)⟩
  have d1 : decide (k < 1) = false := by simpa using a
  by_cases b : 4096 < k
  · have d : decide (4096 < k) = true := by simpa using b
    clear h a b
    go_enter Try.func9, Try.ntmps9
    go_wp2
    refine bodyPost_ret (v := .tuple #[.agg #[.int .i64 0, .slice none 0 0], .int .i64 2]) (by simp [results, Try.results9, go_sem]) rfl ⟨rfl, by repeat (first | exact Below.refl _ _ | refine Below.alloc ?_ (by simp; try omega) _ | refine Below.setCell ?_ (by simp) _)⟩
  have d2 : decide (4096 < k) = false := by simpa using b
  by_cases c : wd < 1
  · have d : decide (wd < 1) = true := by simpa using c
    clear h a b c
    go_enter Try.func9, Try.ntmps9
    go_wp2
    refine bodyPost_ret (v := .tuple #[.agg #[.int .i64 0, .slice none 0 0], .int .i64 2]) (by simp [results, Try.results9, go_sem]) rfl ⟨rfl, by repeat (first | exact Below.refl _ _ | refine Below.alloc ?_ (by simp; try omega) _ | refine Below.setCell ?_ (by simp) _)⟩
  have d3 : decide (wd < 1) = false := by simpa using c
  have d4 : decide (1152921504606846976 < wd) = true := by simp; omega
  clear h a b c
  go_enter Try.func9, Try.ntmps9
  go_wp2
  refine bodyPost_ret (v := .tuple #[.agg #[.int .i64 0, .slice none 0 0], .int .i64 2]) (by simp [results, Try.results9, go_sem]) rfl ⟨rfl, by repeat (first | exact Below.refl _ _ | refine Below.alloc ?_ (by simp; try omega) _ | refine Below.setCell ?_ (by simp) _)⟩
theorem dfault_any {wd k t n : Int} {A : Option Addr} {len cap : Nat} (hw : 1 ≤ wd) (hw2 : wd ≤ 1152921504606846976) (ht : t ≤ 9223372036854775807) (hn : U64 n) (w : World) :
    Calls Try.prog 11 #[.agg #[.int .i64 wd, .slice A len cap], .agg #[.int .u8 k, .int .i64 t, .int .u64 n]] w fun e w' => e = .returned (.int .i64 (checkE wd k t n)) ∧ Below w.heap.size w w' := by
  have n0 := hn.1
  have n1 := hn.2
  clear hn
  by_cases k1 : k = 1
  · subst k1
    by_cases t0 : t < 0
    · have d0 : decide (t < 0) = true := by simpa using t0
      have HE : Hid (checkE wd 1 t n = 2) := Lib.hid (by simp [checkE, t0])
      clear t0
      go_enter Try.func11, Try.ntmps11
      go_wp2
      go_ret
      exact ⟨by rw [HE.out] <;> rfl, by repeat (first | exact Below.refl _ _ | refine Below.alloc ?_ (by simp; try omega) _ | refine Below.setCell ?_ (by simp) _)⟩
    have t1 : 0 ≤ t := by omega
    have d0 : decide (t < 0) = false := by simpa using t1
    by_cases tm : 4294967295 < t / wd
    · have d1 : decide (4294967295 < t / wd) = true := by simpa using tm
      have HE : Hid (checkE wd 1 t n = 2) := Lib.hid (by simp [checkE, tm])
      clear t0 tm
      go_enter Try.func11, Try.ntmps11
      go_wp2
      go_ret
      exact ⟨by rw [HE.out] <;> rfl, by repeat (first | exact Below.refl _ _ | refine Below.alloc ?_ (by simp; try omega) _ | refine Below.setCell ?_ (by simp) _)⟩
    have d1 : decide (4294967295 < t / wd) = false := by simpa using tm
    by_cases nm : 4294967295 < n
    · have d2 : decide (4294967295 < n) = true := by simpa using nm
      have HE : Hid (checkE wd 1 t n = 2) := Lib.hid (by simp [checkE, nm])
      clear t0 tm nm
      go_enter Try.func11, Try.ntmps11
      go_wp2
      go_ret
      exact ⟨by rw [HE.out] <;> rfl, by repeat (first | exact Below.refl _ _ | refine Below.alloc ?_ (by simp; try omega) _ | refine Below.setCell ?_ (by simp) _)⟩
    have d2 : decide (4294967295 < n) = false := by simpa using nm
    have HE : Hid (checkE wd 1 t n = 0) := Lib.hid (by simp [checkE, t0, tm, nm])
    clear t0 tm nm
    go_enter Try.func11, Try.ntmps11
    go_wp2
    go_ret
    exact ⟨by rw [HE.out] <;> rfl, by repeat (first | exact Below.refl _ _ | refine Below.alloc ?_ (by simp; try omega) _ | refine Below.setCell ?_ (by simp) _)⟩
  have e1 : (k == 1) = false := by simpa using k1
  have e1' : (k != 1) = true := by simpa using k1
  by_cases k2 : k = 2
  · subst k2
    by_cases hn0 : n = 0
    · subst hn0
      by_cases t0 : t < 0
      · have d0 : decide (t < 0) = true := by simpa using t0
        have HE : Hid (checkE wd 2 t 0 = 2) := Lib.hid (by simp [checkE, t0])
        clear t0
        go_enter Try.func11, Try.ntmps11
        go_wp2
        go_ret
        exact ⟨by rw [HE.out] <;> rfl, by repeat (first | exact Below.refl _ _ | refine Below.alloc ?_ (by simp; try omega) _ | refine Below.setCell ?_ (by simp) _)⟩
      have t1 : 0 ≤ t := by omega
      have d0 : decide (t < 0) = false := by simpa using t1
      by_cases tm : 4294967295 < t / wd
      · have d1 : decide (4294967295 < t / wd) = true := by simpa using tm
        have HE : Hid (checkE wd 2 t 0 = 2) := Lib.hid (by simp [checkE, tm])
        clear t0 tm
        go_enter Try.func11, Try.ntmps11
        go_wp2
        go_ret
        exact ⟨by rw [HE.out] <;> rfl, by repeat (first | exact Below.refl _ _ | refine Below.alloc ?_ (by simp; try omega) _ | refine Below.setCell ?_ (by simp) _)⟩
      have d1 : decide (4294967295 < t / wd) = false := by simpa using tm
      have HE : Hid (checkE wd 2 t 0 = 0) := Lib.hid (by simp [checkE, t0, tm])
      clear t0 tm
      go_enter Try.func11, Try.ntmps11
      go_wp2
      go_ret
      exact ⟨by rw [HE.out] <;> rfl, by repeat (first | exact Below.refl _ _ | refine Below.alloc ?_ (by simp; try omega) _ | refine Below.setCell ?_ (by simp) _)⟩
    have en : (n == 0) = false := by simpa using hn0
    have en' : (n != 0) = true := by simpa using hn0
    have HE : Hid (checkE wd 2 t n = 10) := Lib.hid (by simp [checkE, hn0])
    clear hn0 k1
    go_enter Try.func11, Try.ntmps11
    go_wp2
    go_ret
    exact ⟨by rw [HE.out] <;> rfl, by repeat (first | exact Below.refl _ _ | refine Below.alloc ?_ (by simp; try omega) _ | refine Below.setCell ?_ (by simp) _)⟩
  have e2 : (k == 2) = false := by simpa using k2
  have e2' : (k != 2) = true := by simpa using k2
  have HE : Hid (checkE wd k t n = 10) := Lib.hid (by simp [checkE, k1, k2])
  clear k1 k2
  go_enter Try.func11, Try.ntmps11
  go_wp2
  go_ret
  exact ⟨by rw [HE.out] <;> rfl, by repeat (first | exact Below.refl _ _ | refine Below.alloc ?_ (by simp; try omega) _ | refine Below.setCell ?_ (by simp) _)⟩

theorem dleast_any {wd : Int} {A : Option Addr} {len cap q : Nat} (hq : q ≤ 4294967295) (hl : len ≤ 4096) (w : World) :
    Calls Try.prog 34 #[.agg #[.int .i64 wd, .slice A len cap], .int .i64 (q : Int)] w fun e w' => e = .returned (.int .i64 ((q + 1 - len : Nat) : Int)) ∧ Below w.heap.size w w' := by
  go_enter Try.func34, Try.ntmps34
  go_wp2
  all_goals
    go_ret
    refine ⟨?_, by repeat (first | exact Below.refl _ _ | refine Below.alloc ?_ (by simp; try omega) _ | refine Below.setCell ?_ (by simp) _)⟩
    apply congrArg Ending.returned
    show Value.int .i64 _ = Value.int .i64 _
    apply congrArg (Value.int .i64)
    omega
end Go.Proofs.Ytjehcgeodcpcaaa
