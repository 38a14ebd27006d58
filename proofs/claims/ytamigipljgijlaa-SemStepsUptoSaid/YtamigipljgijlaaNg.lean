/- THE WALKS of package sem: Try, Leave, Inside; lives. -/
import Derived.Test.YtamigipljgijlaaNf
namespace Go.Proofs.Ytamigipljgijlaa
open Go Go.RowKit
set_option maxRecDepth 100000
section
variable {w : World} {bs bk bw : Nat} {pl d g : Int}
theorem stry_full (hs : SemM w bs bk bw pl d g) (h : IntKind.u64.wrap (pl + g) ≤ d) :
    Calls Try.prog 21 #[.pointer (some ⟨bs, 0, none⟩)] w (WholeS w bs bk bw pl d g ((.tuple #[.int .u64 0, .int .i64 51]))) := by
  have HD : Hid (Calls Try.prog 32 #[.pointer (some ⟨bs, 0, none⟩), .int .u8 2] w (WholeS w bs bk bw pl d g (.tuple #[.int .u64 0, .int .i64 51]))) := Lib.hid (sdo_2 (d2 := d) (g2 := g) (o1 := ⟨2, 1, g, 0, 0, 0⟩) (o2 := ⟨2, 9, g, 0, 0, 51⟩) hs (by omega) (by simp [stepS, newS]) (by simp [stepD, newS]) (by simp [stepG, newS]) (by simp) (by simp [stepS, h]) (by simp [stepD]) (by simp [stepG]) rfl rfl rfl)
  go_enter Try.func21, Try.ntmps21
  go_wp2_with (go_at_call 32; (with_reducible refine HD.out.mono ?_); rintro e w1 ⟨rfl, hR, hP⟩; have HR1 := Lib.hid hR; have HP1 := Lib.hid hP; clear hR hP)
  go_ret2
  exact ⟨rfl, HR1.out, HP1.out⟩
theorem stry_ok (hs : SemM w bs bk bw pl d g) (hq : d < IntKind.u64.wrap (pl + g)) :
    Calls Try.prog 21 #[.pointer (some ⟨bs, 0, none⟩)] w (WholeS w bs bk bw pl (up d) g ((.tuple #[.int .u64 d, .int .i64 0]))) := by
  have h := Int.not_le.2 hq
  have HD : Hid (Calls Try.prog 32 #[.pointer (some ⟨bs, 0, none⟩), .int .u8 2] w (WholeS w bs bk bw pl (up d) g (.tuple #[.int .u64 d, .int .i64 0]))) := Lib.hid (sdo_3 (d2 := d) (g2 := g) (d3 := d) (g3 := g) (o1 := ⟨2, 1, g, 0, 0, 0⟩) (o2 := ⟨2, 2, g, d, 0, 0⟩) (o3 := ⟨2, 9, g, d, d, 0⟩) hs (by omega) (by simp [stepS, newS]) (by simp [stepD, newS]) (by simp [stepG, newS]) (by simp) (by simp [stepS, h]) (by simp [stepD]) (by simp [stepG]) (by simp) (by simp [stepS]) (by simp [stepD]) (by simp [stepG]) rfl rfl rfl)
  go_enter Try.func21, Try.ntmps21
  go_wp2_with (go_at_call 32; (with_reducible refine HD.out.mono ?_); rintro e w1 ⟨rfl, hR, hP⟩; have HR1 := Lib.hid hR; have HP1 := Lib.hid hP; clear hR hP)
  go_ret2
  exact ⟨rfl, HR1.out, HP1.out⟩
theorem sleave_free (hs : SemM w bs bk bw pl d g) (h : d ≤ g) :
    Calls Try.prog 20 #[.pointer (some ⟨bs, 0, none⟩)] w (WholeS w bs bk bw pl d g (.int .i64 70)) := by
  have HD : Hid (Calls Try.prog 32 #[.pointer (some ⟨bs, 0, none⟩), .int .u8 3] w (WholeS w bs bk bw pl d g (.tuple #[.int .u64 0, .int .i64 70]))) := Lib.hid (sdo_2 (d2 := d) (g2 := g) (o1 := ⟨3, 1, g, 0, 0, 0⟩) (o2 := ⟨3, 9, g, 0, 0, 70⟩) hs (by omega) (by simp [stepS, newS]) (by simp [stepD, newS]) (by simp [stepG, newS]) (by simp) (by simp [stepS, h]) (by simp [stepD]) (by simp [stepG]) rfl rfl rfl)
  go_enter Try.func20, Try.ntmps20
  go_wp2_with (go_at_call 32; (with_reducible refine HD.out.mono ?_); rintro e w1 ⟨rfl, hR, hP⟩; have HR1 := Lib.hid hR; have HP1 := Lib.hid hP; clear hR hP)
  go_ret
  exact ⟨rfl, HR1.out, HP1.out⟩
theorem sleave_ok (hs : SemM w bs bk bw pl d g) (hq : g < d) :
    Calls Try.prog 20 #[.pointer (some ⟨bs, 0, none⟩)] w (WholeS w bs bk bw pl d (up g) (.int .i64 0)) := by
  have h := Int.not_le.2 hq
  have HD : Hid (Calls Try.prog 32 #[.pointer (some ⟨bs, 0, none⟩), .int .u8 3] w (WholeS w bs bk bw pl d (up g) (.tuple #[.int .u64 (up g), .int .i64 0]))) := Lib.hid (sdo_3 (d2 := d) (g2 := g) (d3 := d) (g3 := g) (o1 := ⟨3, 1, g, 0, 0, 0⟩) (o2 := ⟨3, 2, g, d, 0, 0⟩) (o3 := ⟨3, 9, g, d, up g, 0⟩) hs (by omega) (by simp [stepS, newS]) (by simp [stepD, newS]) (by simp [stepG, newS]) (by simp) (by simp [stepS, h]) (by simp [stepD]) (by simp [stepG]) (by simp) (by simp [stepS]) (by simp [stepD]) (by simp [stepG]) rfl rfl rfl)
  go_enter Try.func20, Try.ntmps20
  go_wp2_with (go_at_call 32; (with_reducible refine HD.out.mono ?_); rintro e w1 ⟨rfl, hR, hP⟩; have HR1 := Lib.hid hR; have HP1 := Lib.hid hP; clear hR hP)
  go_ret
  exact ⟨rfl, HR1.out, HP1.out⟩
theorem sinside_any (hs : SemM w bs bk bw pl d g) :
    Calls Try.prog 19 #[.pointer (some ⟨bs, 0, none⟩)] w (WholeS w bs bk bw pl d g ((.tuple #[.int .u64 (IntKind.u64.wrap (min d (IntKind.u64.wrap (pl + g)) - g)), .int .i64 0]))) := by
  have HD : Hid (Calls Try.prog 32 #[.pointer (some ⟨bs, 0, none⟩), .int .u8 4] w (WholeS w bs bk bw pl d g (.tuple #[.int .u64 (IntKind.u64.wrap (min d (IntKind.u64.wrap (pl + g)) - g)), .int .i64 0]))) := Lib.hid (sdo_2 (d2 := d) (g2 := g) (o1 := ⟨4, 1, g, 0, 0, 0⟩) (o2 := ⟨4, 9, g, 0, IntKind.u64.wrap (min d (IntKind.u64.wrap (pl + g)) - g), 0⟩) hs (by omega) (by simp [stepS, newS]) (by simp [stepD, newS]) (by simp [stepG, newS]) (by simp) (by simp [stepS]) (by simp [stepD]) (by simp [stepG]) rfl rfl rfl)
  go_enter Try.func19, Try.ntmps19
  go_wp2_with (go_at_call 32; (with_reducible refine HD.out.mono ?_); rintro e w1 ⟨rfl, hR, hP⟩; have HR1 := Lib.hid hR; have HP1 := Lib.hid hP; clear hR hP)
  go_ret2
  exact ⟨rfl, HR1.out, HP1.out⟩
end
theorem up_at {w : World} {bs bk bw : Nat} {pl d g d' g' : Int} {v : Value} {e : Ending} {w' : World} (h : WholeS w bs bk bw pl d g v e w') (h1 : d = d') (h2 : g = g') : WholeS w bs bk bw pl d' g' v e w' := by subst h1 h2; exact h
theorem lives_any (w : World) :
    Calls Try.prog 6 #[] w fun e w' => e = .returned (.bool true) ∧ Below w.heap.size w w' := by
  have A1 : Hid (0 < IntKind.u64.wrap ((1 : Nat) + 0 : Int)) := Lib.hid (by decide)
  have A2 : Hid (IntKind.u64.wrap ((1 : Nat) + 0 : Int) ≤ 1) := Lib.hid (by decide)
  have A4 : Hid ((0 : Int) < 1) := Lib.hid (by decide)
  have A5 : Hid ((1 : Int) ≤ 1) := Lib.hid (by decide)
  have A6 : Hid (1 < IntKind.u64.wrap ((1 : Nat) + 1 : Int)) := Lib.hid (by decide)
  have U0 : Hid (up 0 = 1) := Lib.hid (by decide)
  have I3 : Hid (IntKind.u64.wrap (min 1 (IntKind.u64.wrap ((1 : Nat) + 0 : Int)) - 0) = 1) := Lib.hid (by decide)
  go_enter Try.func6, Try.ntmps6
  go_wp2_with (first
    | (go_at_call 7; refine (snew_yes w (n := 1) (by omega) (by omega)).mono ?_; rintro e w1 ⟨bs, bk, bw, rfl, hg, hk, hw, hS, hb⟩; have S1 := Lib.hid hS; have P1 := Lib.hid (Part.of_below hb (Nat.le_refl _) [bw]); have HBW := Lib.hid hw; clear hg hk hw hS hb)
    | (go_at_call 21; (with_reducible refine (stry_ok S1.out A1.out).mono ?_); rintro e w2 hq; obtain ⟨rfl, hR, hP⟩ := up_at hq U0.out rfl; have S2 := Lib.hid hR; have P2 := Lib.hid (P1.out.then_ hP); clear hR hP hq)
    | (go_at_call 21; (with_reducible refine (stry_full S2.out A2.out).mono ?_); rintro e w3 ⟨rfl, hR, hP⟩; have S3 := Lib.hid hR; have P3 := Lib.hid (P2.out.then_ hP); clear hR hP)
    | (go_at_call 19; (with_reducible refine (sinside_any S3.out).mono ?_); rw [I3.out]; rintro e w4 ⟨rfl, hR, hP⟩; have S4 := Lib.hid hR; have P4 := Lib.hid (P3.out.then_ hP); clear hR hP)
    | (go_at_call 20; (with_reducible refine (sleave_ok S4.out A4.out).mono ?_); rintro e w5 hq; obtain ⟨rfl, hR, hP⟩ := up_at hq rfl U0.out; have S5 := Lib.hid hR; have P5 := Lib.hid (P4.out.then_ hP); clear hR hP hq)
    | (go_at_call 20; (with_reducible refine (sleave_free S5.out A5.out).mono ?_); rintro e w6 ⟨rfl, hR, hP⟩; have S6 := Lib.hid hR; have P6 := Lib.hid (P5.out.then_ hP); clear hR hP)
    | (go_at_call 21; (with_reducible refine (stry_ok S6.out A6.out).mono ?_); rintro e w7 ⟨rfl, hR, hP⟩; have P7 := Lib.hid (P6.out.then_ hP); clear hR hP))
  go_ret
  exact ⟨rfl, P7.out.below (Nat.le_refl _) (by have := HBW.out; simp; omega)⟩
end Go.Proofs.Ytamigipljgijlaa
