/- THE WALK of the document's squares of numbers by their words. -/
import Derived.Test.YtaeffkgnfbomdaaWo
import Derived.Test.YtaeffkgnfbomdaaHp
import Derived.Deep.OwnRows
namespace Go.Proofs.Ytaeffkgnfbomdaa
open Go.RowKit
set_option maxRecDepth 100000
def u32s (ys : List Nat) : List Value := ys.map fun (x : Nat) => Value.int .u32 (x : Int)
theorem u32s_get {ys : List Nat} {j : Nat} (h : j < ys.length) : (u32s ys)[j]? = some (.int .u32 ((ys.getD j 0 : Nat) : Int)) := by
  unfold u32s
  rw [List.getElem?_map, List.getElem?_eq_getElem h, List.getD_eq_getElem?_getD, List.getElem?_eq_getElem h]
  rfl
theorem u32s_set (ys : List Nat) (j v : Nat) : u32s (ys.set j v) = (u32s ys).set j (.int .u32 (v : Int)) := by unfold u32s; rw [List.map_set]
theorem getD_set {ys : List Nat} {j i v : Nat} (h : j < ys.length) : (ys.set j v).getD i 0 = if i = j then v else ys.getD i 0 := by
  rw [List.getD_eq_getElem?_getD, List.getElem?_set]
  by_cases he : j = i
  · subst he; simp [h]
  · rw [if_neg he, if_neg (fun e => he e.symm), List.getD_eq_getElem?_getD]
theorem small_set {ys : List Nat} (h : Small ys) (j : Nat) {v : Nat} (hv : v < 4294967296) : Small (ys.set j v) := by
  intro x hx
  rcases List.mem_or_eq_of_mem_set hx with h1 | h1
  · exact h x h1
  · omega
theorem V_set_lo {ys : List Nat} {j v : Nat} (h : j < ys.length) : ∀ k, k ≤ j → V (ys.set j v) k = V ys k := by
  intro k
  induction k with
  | zero => intro _; rfl
  | succ k ih => intro hk; rw [V, V, ih (by omega), getD_set h, if_neg (by omega)]
theorem V_set {ys : List Nat} {j v : Nat} (h : j < ys.length) : ∀ k, j < k → V (ys.set j v) k + ys.getD j 0 * 2 ^ (32 * j) = V ys k + v * 2 ^ (32 * j) := by
  intro k
  induction k with
  | zero => intro hk; omega
  | succ k ih =>
    intro hk
    rw [V, V, getD_set h]
    by_cases he : k = j
    · subst he; rw [if_pos rfl, V_set_lo h k (Nat.le_refl _)]; omega
    · rw [if_neg he]; have := ih (by omega); omega
theorem V_zero (m : Nat) : ∀ k, V (List.replicate m 0) k = 0 := by
  intro k
  induction k with
  | zero => rfl
  | succ k ih =>
    rw [V, ih, List.getD_eq_getElem?_getD, List.getElem?_replicate]
    split <;> simp
theorem sq_step {V' V0 OLD q r x ai ak y c Vk P Pi Pk : Nat} (hx : x = ai * ak + y + c) (hq : x = q * 4294967296 + r) (hP : P = Pk * Pi) (h1 : V' + y * P = V0 + r * P) (h2 : V0 + c * P = OLD + ai * Vk * Pi) :
    V' + q * (4294967296 * P) = OLD + ai * (Vk + ak * Pk) * Pi := by
  have e1 : q * (4294967296 * P) = q * 4294967296 * P := by rw [Nat.mul_assoc]
  have e2 : ai * (Vk + ak * Pk) * Pi = ai * Vk * Pi + ai * ak * P := by
    rw [Nat.mul_add, Nat.add_mul, hP, ← Nat.mul_assoc, ← Nat.mul_assoc]
  have e3 : q * 4294967296 * P + r * P = ai * ak * P + y * P + c * P := by
    rw [← Nat.add_mul, ← hq, hx, Nat.add_mul, Nat.add_mul]
  rw [e1, e2]
  omega
theorem x_lt {ai ak y c : Nat} (h1 : ai < 4294967296) (h2 : ak < 4294967296) (h3 : y < 4294967296) (h4 : c < 4294967296) : ai * ak ≤ 18446744065119617025 ∧ ai * ak + y + c < 18446744073709551616 := by
  have : ai * ak ≤ 4294967295 * 4294967295 := Nat.mul_le_mul (by omega) (by omega)
  omega
/-- behind i rows -/
def OutInv (xs ys : List Nat) (n i : Nat) : Prop := ys.length = 2 * n ∧ Small ys ∧ V ys (2 * n) = V xs i * V xs n ∧ ∀ j, i + n ≤ j → ys.getD j 0 = 0
/-- behind k words of row i, c carried -/
def InInv (xs ys : List Nat) (n i k c : Nat) : Prop := ys.length = 2 * n ∧ Small ys ∧ c < 4294967296 ∧ V ys (2 * n) + c * 2 ^ (32 * (i + k)) = V xs i * V xs n + xs.getD i 0 * V xs k * 2 ^ (32 * i) ∧ ∀ j, i + n ≤ j → ys.getD j 0 = 0
theorem out_start (xs : List Nat) (n : Nat) : OutInv xs (List.replicate (2 * n) 0) n 0 := by
  refine ⟨by simp, fun x hx => by have := List.eq_of_mem_replicate hx; omega, by rw [V_zero]; simp [V], fun j _ => ?_⟩
  rw [List.getD_eq_getElem?_getD, List.getElem?_replicate]
  split <;> simp
theorem in_start {xs ys : List Nat} {n i : Nat} (h : OutInv xs ys n i) : InInv xs ys n i 0 0 := by
  obtain ⟨a, b, c, d⟩ := h
  exact ⟨a, b, by omega, by simp [V, c], d⟩
theorem in_step {xs ys : List Nat} {n i k c : Nat} (hs : Small xs) (hi : i < n) (hk : k < n) (h : InInv xs ys n i k c) :
    InInv xs (ys.set (i + k) ((xs.getD i 0 * xs.getD k 0 + ys.getD (i + k) 0 + c) % 4294967296)) n i (k + 1) ((xs.getD i 0 * xs.getD k 0 + ys.getD (i + k) 0 + c) / 4294967296) := by
  obtain ⟨a, b, d, e, f⟩ := h
  have h1 := getD_small hs i
  have h2 := getD_small hs k
  have h3 := getD_small b (i + k)
  have hx := x_lt h1 h2 h3 d
  have hlen : i + k < ys.length := by omega
  have hv := V_set (v := (xs.getD i 0 * xs.getD k 0 + ys.getD (i + k) 0 + c) % 4294967296) hlen (2 * n) (by omega)
  refine ⟨by simpa using a, small_set b _ (Nat.mod_lt _ (by omega)), by omega, ?_, fun j hj => ?_⟩
  · rw [show 32 * (i + (k + 1)) = 32 + 32 * (i + k) by omega, Nat.pow_add, V]
    exact sq_step rfl (by omega) (by rw [show 32 * (i + k) = 32 * k + 32 * i by omega, Nat.pow_add]) hv e
  · rw [getD_set hlen, if_neg (by omega)]; exact f j hj
theorem out_step {xs ys : List Nat} {n i c : Nat} (hi : i < n) (h : InInv xs ys n i n c) : OutInv xs (ys.set (i + n) c) n (i + 1) := by
  obtain ⟨a, b, d, e, f⟩ := h
  have hlen : i + n < ys.length := by omega
  have hv := V_set (v := c) hlen (2 * n) (by omega)
  rw [f (i + n) (Nat.le_refl _), Nat.zero_mul, Nat.add_zero] at hv
  refine ⟨by simpa using a, small_set b _ d, ?_, fun j hj => ?_⟩
  · rw [hv, e, V, Nat.add_mul, Nat.mul_assoc, Nat.mul_assoc, Nat.mul_comm (V xs n)]
  · rw [getD_set hlen, if_neg (by omega)]; exact f j (by omega)
theorem zeros (m : Nat) : madeCells #[Value.int .u32 0] m = (u32s (List.replicate m 0)).toArray := by
  unfold madeCells u32s
  apply Array.ext'
  simp
  rw [List.eq_replicate_iff]
  constructor
  · simp
  · intro b hb
    simp at hb
    obtain ⟨a, _, rfl⟩ := hb
    simp [Nat.mod_one]
/-- the world behind some words of a row: the words of the square, and nothing that was there before is another one -/
def SqW (w : World) (_xs ys : List Nat) (wx : World) : Prop := Row wx w.heap.size 76 (u32s ys) ∧ Below w.heap.size w wx
def OutAt (w : World) (xs : List Nat) (n : Nat) (s4 : Value) (wx : World) : Prop := ∃ (i : Nat) (ys : List Nat), s4 = .int .i64 (i : Int) ∧ i ≤ n ∧ OutInv xs ys n i ∧ SqW w xs ys wx
def InAt (w : World) (xs : List Nat) (n i : Nat) (s5 s6 : Value) (wx : World) : Prop := ∃ (k c : Nat) (ys : List Nat), s5 = .int .u64 (c : Int) ∧ s6 = .int .i64 (k : Int) ∧ k ≤ n ∧ InInv xs ys n i k c ∧ SqW w xs ys wx
def SqOut (w : World) (xs : List Nat) (n : Nat) (e : Ending) (w' : World) : Prop := ∃ ys : List Nat, e = .returned (.slice (some ⟨w.heap.size, 0, none⟩) (2 * n) (2 * n)) ∧ ys.length = 2 * n ∧ Small ys ∧ Row w' w.heap.size 76 (u32s ys) ∧ V ys (2 * n) = V xs n * V xs n ∧ Below w.heap.size w w'
theorem made_run (n : Nat) (hn : n ≤ 300) (w : World) : (Instr.makeSlice 77 (.int .i64 (2 * (n : Int))) (.int .i64 (2 * (n : Int)))).run Try.prog w = .ok (.slice (some ⟨w.heap.size, 0, none⟩) (2 * n) (2 * n)) (w.alloc (.cells (u32s (List.replicate (2 * n) 0)).toArray 76)) := by
  have := run_make_row' (P := Try.prog) 77 76 (.int .u32 0) 4 Try.underlying77 (by kernel_rfl) rfl .i64 .i64 (2 * n) (by omega) (by omega) w
  rw [zeros] at this
  rw [show (2 * (n : Int)) = ((2 * n : Nat) : Int) by omega]
  exact this
theorem squared_any {b n : Nat} {xs : List Nat} (hl : xs.length = n) (w : World) (hb : b < w.heap.size) (hc : Words w b xs) (hs : Small xs) (hn : n ≤ 300) :
    Calls Try.prog 55 #[.slice (some ⟨b, 0, none⟩) n n] w (SqOut w xs n) := by
  have hn1 : (n : Int) ≤ 300 := by omega
  have hmk := made_run n hn
  have HL := Lib.hid hl
  have HC := Lib.hid hc
  have HS := Lib.hid hs
  have HBL := Lib.hid hb
  clear hl hc hs hn
  go_enter Try.func55, Try.ntmps55
  go_wp2_with (fail)
  go_loopw [4] (fun s4 wx => OutAt w xs n s4 wx) (fun s4 _ => (n - intOf s4).toNat)
  case atStart => exact ⟨0, _, rfl, Nat.zero_le _, out_start xs n, Row.new _ _ _, (Below.refl _ _).alloc (Nat.le_refl _) _⟩
  case round =>
    obtain ⟨i, ys, rfl, hi, ho, hR, hB⟩ := hrel
    have HO := Lib.hid ho
    have HR := Lib.hid hR
    have HB := Lib.hid hB
    have hi1 : (i : Int) ≤ 300 := by omega
    have hz := hR.lt
    by_cases hlt : (i : Int) < n
    · have hin : decide (i < n) = true := decide_eq_true (by omega)
      clear hR hB ho
      go_wp2_with (fail)
      go_loopw [5, 6] (fun s5 s6 wx => InAt w xs n i s5 s6 wx) (fun _ s6 _ => (n - intOf s6).toNat)
      case atStart => exact ⟨0, 0, ys, rfl, rfl, Nat.zero_le _, in_start HO.out, HR.out, HB.out⟩
      case round =>
        obtain ⟨k, c, zs, rfl, rfl, hk, hI, hR2, hB2⟩ := hrel
        have HI := Lib.hid hI
        have HR2 := Lib.hid hR2
        have HB2 := Lib.hid hB2
        have hk1 : (k : Int) ≤ 300 := by omega
        have hc1 : (c : Int) < 4294967296 := by have := hI.2.2.1; omega
        have hz2 := hR2.lt
        by_cases hltk : (k : Int) < n
        · have hkn : decide (k < n) = true := decide_eq_true (by omega)
          have hci := (hB2.cell (p := ⟨b, i, none⟩) HBL.out).trans (HC.out i (by rw [HL.out]; omega))
          have hck := (hB2.cell (p := ⟨b, k, none⟩) HBL.out).trans (HC.out k (by rw [HL.out]; omega))
          have hcy := (hR2.cell (i + k)).trans (u32s_get (by rw [hI.1]; omega))
          have HST := Lib.hid (in_step HS.out (by omega) (by omega) hI)
          have b1 := getD_small HS.out i
          have b2 := getD_small HS.out k
          have b3 := getD_small hI.2.1 (i + k)
          have hx := x_lt b1 b2 b3 hI.2.2.1
          have hfz := hR2.free (i + k)
          clear hI hR2 hB2
          generalize xs.getD i 0 = ai at *
          generalize xs.getD k 0 = ak at *
          generalize zs.getD (i + k) 0 = y at *
          have hb1 : (ai : Int) < 4294967296 := by omega
          have hb2 : (ak : Int) < 4294967296 := by omega
          have hb3 : (y : Int) < 4294967296 := by omega
          obtain ⟨pp, hpp⟩ : ∃ pp, ai * ak = pp := ⟨_, rfl⟩
          rw [hpp] at hx HST
          have hp1 : (pp : Int) ≤ 18446744065119617025 := by omega
          have hw1 : IntKind.u64.wrap ((ai : Int) * ak) = (pp : Int) := by rw [← Int.natCast_mul, hpp]; exact IntWalk.u64_in _ (by omega)
          have hw2 : IntKind.u64.wrap ((pp : Int) + y) = (pp : Int) + y := IntWalk.u64_in _ (by omega)
          obtain ⟨X, hX⟩ : ∃ X, pp + y + c = X := ⟨_, rfl⟩
          rw [hX] at hx HST
          have hw3 : IntKind.u64.wrap ((pp : Int) + y + c) = (X : Int) := by rw [← hX, IntWalk.u64_in _ (by omega)]; omega
          have hxb : (X : Int) < 18446744073709551616 := by omega
          have hik : IntKind.i64.wrap ((i : Int) + k) = (i : Int) + k := IntWalk.i64_in _ (by omega)
          have hik2 : ((i : Int) + k).toNat = i + k := by omega
          have hik3 : (i : Int) + k < 2 * (n : Int) := by omega
          have hik4 : 0 ≤ (i : Int) + k := by omega
          have hik5 : i + k < 2 * n := by omega
          clear hx b1 b2 b3 hpp hX
          go_upto_region 9 with (fail)
          go_quiet (fail)
          clear hw1 hw2 hw3
          go_wp2_with (fail)
          go_roundw
          case rel =>
            refine ⟨k + 1, X / 4294967296, zs.set (i + k) (X % 4294967296), by go_num, by go_num, by omega, HST.out, ?_, Below.setCell (Below.drewN' HB2.out _) (by simp) _⟩
            rw [u32s_set, show ((X % 4294967296 : Nat) : Int) = (X : Int) % 4294967296 by omega]
            exact Row.set (show Row (wr.drewN nq) w.heap.size 76 (u32s zs) from HR2.out) (i + k) _
          case measure => simp [intOf]; omega
        · obtain rfl : k = n := by omega
          have hkn : decide (k < k) = false := decide_eq_false (by omega)
          have HST := Lib.hid (out_step (by omega) hI)
          have hcy := (hR2.cell (i + k)).trans (u32s_get (by rw [hI.1]; omega))
          have hfz := hR2.free (i + k)
          have hik : IntKind.i64.wrap ((i : Int) + k) = (i : Int) + k := IntWalk.i64_in _ (by omega)
          have hik2 : ((i : Int) + k).toNat = i + k := by omega
          have hik3 : (i : Int) + k < 2 * (k : Int) := by omega
          have hik4 : 0 ≤ (i : Int) + k := by omega
          have hik5 : i + k < 2 * k := by omega
          clear hI hR2 hB2 hltk
          generalize zs.getD (i + k) 0 = y at *
          go_wp2_with (fail)
          go_roundw
          case rel => exact ⟨i + 1, zs.set (i + k) c, by go_num, by omega, HST.out, by rw [u32s_set]; exact Row.set HR2.out (i + k) _, Below.setCell HB2.out (by simp) _⟩
          case measure => simp [intOf]; omega
    · obtain rfl : i = n := by omega
      have hin : decide (i < i) = false := decide_eq_false (by omega)
      clear hR hB ho hlt
      go_wp2_with (fail)
      go_ret
      exact ⟨ys, rfl, HO.out.1, HO.out.2.1, HR.out, HO.out.2.2.1, HB.out⟩
end Go.Proofs.Ytaeffkgnfbomdaa
