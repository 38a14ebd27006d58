/- THE WALKS of rates written. -/
import Derived.Test.YthbphanlmhghdaaDoorLa
import Derived.Test.YthbphanlmhghdaaDoorWt
namespace Go.Proofs.YthbphanlmhghdaaDoor
open Go.RowKit

def rprOut (N P : Int) : List UInt8 × Int := if TM.right N P then (Lib.decDigits N.toNat ++ (47 :: TM.spanText P.toNat), 0) else ([], 21)
theorem rprOut_ok {N P : Int} (h : TM.right N P) : rprOut N P = (Lib.decDigits N.toNat ++ (47 :: TM.spanText P.toNat), 0) := if_pos h
theorem rprOut_bad {N P : Int} (h : ¬ TM.right N P) : rprOut N P = ([], 21) := if_neg h
theorem parts_short : ∀ (n k d : Nat), (d : Int) ≤ 2305843009213693952 → (TM.partsFrom d n k).length ≤ 22 * n
  | 0, _, _, _ => Nat.zero_le _
  | n + 1, k, d, h => by
    obtain ⟨z, hz, hz1, _⟩ := usz k
    by_cases hle : z ≤ d
    · have hq := dec_short (d / z) (by have := Nat.div_le_self d z; omega)
      have hu := uname_short k
      have ih := parts_short n (k + 1) (d % z) (by have := Nat.mod_le d z; omega)
      have e := parts_yes (n := n) hz hle []
      rw [List.nil_append, List.nil_append] at e
      rw [e, List.length_append, List.length_append]
      omega
    · rw [parts_no hz hle]
      have := parts_short n (k + 1) d h
      omega
theorem span_short (d : Nat) (h : (d : Int) ≤ 2305843009213693952) : (TM.spanText d).length ≤ 132 := by
  unfold TM.spanText
  split
  · simp
  · exact parts_short 6 0 d h
theorem rpr_cat (n p : Nat) : ((⟨(Lib.decDigits n).toArray⟩ : ByteArray) ++ ⟨#[47]⟩) ++ ⟨(TM.spanText p).toArray⟩ = ⟨(Lib.decDigits (n : Int).toNat ++ (47 :: TM.spanText (p : Int).toNat)).toArray⟩ := by
  rw [Int.toNat_natCast, Int.toNat_natCast, show (⟨#[47]⟩ : ByteArray) = ⟨[47].toArray⟩ from rfl, cat, cat, List.append_assoc]
  rfl

set_option maxRecDepth 100000 in
set_option maxHeartbeats 1000000 in
theorem printRate_any (N P : Int) (w : World) (hE : Env w) : Calls Tryd.prog 22 #[.agg #[.int .i64 N, .int .i64 P]] w fun e w' => e = .returned (.tuple #[.string ⟨(rprOut N P).1.toArray⟩, .int .i64 (rprOut N P).2]) ∧ Below w.heap.size w w' := by
  by_cases h : TM.right N P
  · rw [rprOut_ok h]
    have HR : Hid (rateOut N P = 0) := Lib.hid (rateOut_ok h)
    obtain ⟨h1, h2, h3, h4⟩ := h
    obtain ⟨n, rfl⟩ := Int.eq_ofNat_of_zero_le h1
    obtain ⟨p, rfl⟩ := Int.eq_ofNat_of_zero_le (by omega : 0 ≤ P)
    have HS := Lib.hid (spanOut_ok h4)
    have hd := dec_short n (by omega)
    have hp := span_short p h4
    rw [← rpr_cat]
    clear h1 h3
    have hnew : Below w.heap.size w (w.alloc (.cells #[.int .i64 n, .int .i64 p] 29)) := (Below.refl _ _).alloc (Nat.le_refl _) _
    have HE := Lib.hid (hE.on hnew)
    have HN := Lib.hid hnew
    have HB : Hid (Below (w.alloc (.cells #[.int .i64 n, .int .i64 p] 29)).heap.size (w.alloc (.cells #[.int .i64 n, .int .i64 p] 29)) (w.alloc (.cells #[.int .i64 n, .int .i64 p] 29))) := Lib.hid (Below.refl _ _)
    clear hnew hE
    go_enter Tryd.func22, Tryd.ntmps22
    go_wp2_with (first
      | (go_at_call 16; refine (checkRate_any _ _ _).mono ?_; (first | rw [HR.out]); rintro e wn ⟨rfl, hb⟩; replace HB := Lib.hid (two_stay HB hb); clear hb; have c00 : wn.cell? ⟨w.heap.size, 0, none⟩ = some (.int .i64 n) := (HB.out.cell (p := ⟨w.heap.size, 0, none⟩) (by simp)).trans (by simp [go_sem]); have c01 : wn.cell? ⟨w.heap.size, 1, none⟩ = some (.int .i64 p) := (HB.out.cell (p := ⟨w.heap.size, 1, none⟩) (by simp)).trans (by simp [go_sem]))
      | (go_at_call 12; refine (print_any _ _ (HE.out.on HB.out)).mono ?_; (first | rw [HS.out]); rintro e wn ⟨rfl, hb⟩; replace HB := Lib.hid (two_stay HB hb); clear hb; have c00 : wn.cell? ⟨w.heap.size, 0, none⟩ = some (.int .i64 n) := (HB.out.cell (p := ⟨w.heap.size, 0, none⟩) (by simp)).trans (by simp [go_sem]); have c01 : wn.cell? ⟨w.heap.size, 1, none⟩ = some (.int .i64 p) := (HB.out.cell (p := ⟨w.heap.size, 1, none⟩) (by simp)).trans (by simp [go_sem]))
      | (go_at_call 39; refine (format_any n _ (by omega) (HE.out.on HB.out)).mono ?_; rintro e wn ⟨rfl, hb⟩; replace HB := Lib.hid (two_stay HB hb); clear hb; have c00 : wn.cell? ⟨w.heap.size, 0, none⟩ = some (.int .i64 n) := (HB.out.cell (p := ⟨w.heap.size, 0, none⟩) (by simp)).trans (by simp [go_sem]); have c01 : wn.cell? ⟨w.heap.size, 1, none⟩ = some (.int .i64 p) := (HB.out.cell (p := ⟨w.heap.size, 1, none⟩) (by simp)).trans (by simp [go_sem])))
    go_ret2
    exact ⟨rfl, HN.out.trans (HB.out.mono (by simp))⟩
  · rw [rprOut_bad h]
    have HR : Hid (rateOut N P = 21) := Lib.hid (rateOut_bad h)
    clear h
    have hnew : Below w.heap.size w (w.alloc (.cells #[.int .i64 N, .int .i64 P] 29)) := (Below.refl _ _).alloc (Nat.le_refl _) _
    have HE := Lib.hid (hE.on hnew)
    have HN := Lib.hid hnew
    have HB : Hid (Below (w.alloc (.cells #[.int .i64 N, .int .i64 P] 29)).heap.size (w.alloc (.cells #[.int .i64 N, .int .i64 P] 29)) (w.alloc (.cells #[.int .i64 N, .int .i64 P] 29))) := Lib.hid (Below.refl _ _)
    clear hnew hE
    go_enter Tryd.func22, Tryd.ntmps22
    go_wp2_with (first
      | (go_at_call 16; refine (checkRate_any _ _ _).mono ?_; (first | rw [HR.out]); rintro e wn ⟨rfl, hb⟩; replace HB := Lib.hid (two_stay HB hb); clear hb; have c00 : wn.cell? ⟨w.heap.size, 0, none⟩ = some (.int .i64 N) := (HB.out.cell (p := ⟨w.heap.size, 0, none⟩) (by simp)).trans (by simp [go_sem]); have c01 : wn.cell? ⟨w.heap.size, 1, none⟩ = some (.int .i64 P) := (HB.out.cell (p := ⟨w.heap.size, 1, none⟩) (by simp)).trans (by simp [go_sem])))
    go_ret2
    exact ⟨rfl, HN.out.trans (HB.out.mono (by simp))⟩

set_option maxRecDepth 100000 in
set_option maxHeartbeats 1000000 in
theorem refPrintRate_any (N P : Int) (w : World) : Calls Tryd.prog 23 #[.agg #[.int .i64 N, .int .i64 P]] w fun e w' => e = .returned (.tuple #[.string ⟨(rprOut N P).1.toArray⟩, .int .i64 (rprOut N P).2]) ∧ Below w.heap.size w w' := by
  by_cases h : TM.right N P
  · rw [rprOut_ok h]
    have HR : Hid (decide (TM.right N P) = true) := Lib.hid (decide_eq_true h)
    obtain ⟨h1, h2, h3, h4⟩ := h
    obtain ⟨n, rfl⟩ := Int.eq_ofNat_of_zero_le h1
    obtain ⟨p, rfl⟩ := Int.eq_ofNat_of_zero_le (by omega : 0 ≤ P)
    have HS := Lib.hid (spanOut_ok h4)
    have hd := dec_short n (by omega)
    have hp := span_short p h4
    rw [← rpr_cat]
    clear h1 h3
    have hnew : Below w.heap.size w (w.alloc (.cells #[.int .i64 n, .int .i64 p] 29)) := (Below.refl _ _).alloc (Nat.le_refl _) _
    have HN := Lib.hid hnew
    have HB : Hid (Below (w.alloc (.cells #[.int .i64 n, .int .i64 p] 29)).heap.size (w.alloc (.cells #[.int .i64 n, .int .i64 p] 29)) (w.alloc (.cells #[.int .i64 n, .int .i64 p] 29))) := Lib.hid (Below.refl _ _)
    clear hnew
    go_enter Tryd.func23, Tryd.ntmps23
    go_wp2_with (first
      | (go_at_call 49; refine (right_any _ _ _).mono ?_; (first | rw [HR.out]); rintro e wn ⟨rfl, hb⟩; replace HB := Lib.hid (two_stay HB hb); clear hb; have c00 : wn.cell? ⟨w.heap.size, 0, none⟩ = some (.int .i64 n) := (HB.out.cell (p := ⟨w.heap.size, 0, none⟩) (by simp)).trans (by simp [go_sem]); have c01 : wn.cell? ⟨w.heap.size, 1, none⟩ = some (.int .i64 p) := (HB.out.cell (p := ⟨w.heap.size, 1, none⟩) (by simp)).trans (by simp [go_sem]))
      | (go_at_call 13; refine (refPrint_any _ _).mono ?_; (first | rw [HS.out]); rintro e wn ⟨rfl, hb⟩; replace HB := Lib.hid (two_stay HB hb); clear hb; have c00 : wn.cell? ⟨w.heap.size, 0, none⟩ = some (.int .i64 n) := (HB.out.cell (p := ⟨w.heap.size, 0, none⟩) (by simp)).trans (by simp [go_sem]); have c01 : wn.cell? ⟨w.heap.size, 1, none⟩ = some (.int .i64 p) := (HB.out.cell (p := ⟨w.heap.size, 1, none⟩) (by simp)).trans (by simp [go_sem]))
      | (go_at_call 43; refine (digits_any n _ (by omega)).mono ?_; rintro e wn ⟨rfl, hb⟩; replace HB := Lib.hid (two_stay HB hb); clear hb; have c00 : wn.cell? ⟨w.heap.size, 0, none⟩ = some (.int .i64 n) := (HB.out.cell (p := ⟨w.heap.size, 0, none⟩) (by simp)).trans (by simp [go_sem]); have c01 : wn.cell? ⟨w.heap.size, 1, none⟩ = some (.int .i64 p) := (HB.out.cell (p := ⟨w.heap.size, 1, none⟩) (by simp)).trans (by simp [go_sem])))
    go_ret2
    exact ⟨rfl, HN.out.trans (HB.out.mono (by simp))⟩
  · rw [rprOut_bad h]
    have HR : Hid (decide (TM.right N P) = false) := Lib.hid (decide_eq_false h)
    clear h
    have hnew : Below w.heap.size w (w.alloc (.cells #[.int .i64 N, .int .i64 P] 29)) := (Below.refl _ _).alloc (Nat.le_refl _) _
    have HN := Lib.hid hnew
    have HB : Hid (Below (w.alloc (.cells #[.int .i64 N, .int .i64 P] 29)).heap.size (w.alloc (.cells #[.int .i64 N, .int .i64 P] 29)) (w.alloc (.cells #[.int .i64 N, .int .i64 P] 29))) := Lib.hid (Below.refl _ _)
    clear hnew
    go_enter Tryd.func23, Tryd.ntmps23
    go_wp2_with (first
      | (go_at_call 49; refine (right_any _ _ _).mono ?_; (first | rw [HR.out]); rintro e wn ⟨rfl, hb⟩; replace HB := Lib.hid (two_stay HB hb); clear hb; have c00 : wn.cell? ⟨w.heap.size, 0, none⟩ = some (.int .i64 N) := (HB.out.cell (p := ⟨w.heap.size, 0, none⟩) (by simp)).trans (by simp [go_sem]); have c01 : wn.cell? ⟨w.heap.size, 1, none⟩ = some (.int .i64 P) := (HB.out.cell (p := ⟨w.heap.size, 1, none⟩) (by simp)).trans (by simp [go_sem])))
    go_ret2
    exact ⟨rfl, HN.out.trans (HB.out.mono (by simp))⟩

end Go.Proofs.YthbphanlmhghdaaDoor
