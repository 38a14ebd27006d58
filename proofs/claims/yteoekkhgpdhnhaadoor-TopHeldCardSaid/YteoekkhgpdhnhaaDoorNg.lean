/- THE WALKS of package sem: Try, Leave, Inside; lives. -/
import Derived.Test.YteoekkhgpdhnhaaDoorNf
namespace Go.Proofs.YteoekkhgpdhnhaaDoor
open Go Go.RowKit
set_option maxRecDepth 100000
section
variable {w : World} {bs bk bw : Nat} {pl d g : Int}
theorem stry_full (hs : SemM w bs bk bw pl d g) (h : IntKind.u64.wrap (pl + g) ≤ d) :
    Calls Tryd.prog 16 #[.pointer (some ⟨bs, 0, none⟩)] w (WholeS w bs bk bw pl d g ((.tuple #[.int .u64 0, .int .i64 51]))) := by
  have HD : Hid (Calls Tryd.prog 44 #[.pointer (some ⟨bs, 0, none⟩), .int .u8 2] w (WholeS w bs bk bw pl d g (.tuple #[.int .u64 0, .int .i64 51]))) := Lib.hid (sdo_2 (d2 := d) (g2 := g) (o1 := ⟨2, 1, g, 0, 0, 0⟩) (o2 := ⟨2, 9, g, 0, 0, 51⟩) hs (by omega) (by simp [stepS, newS]) (by simp [stepD, newS]) (by simp [stepG, newS]) (by simp) (by simp [stepS, h]) (by simp [stepD]) (by simp [stepG]) rfl rfl rfl)
  go_enter Tryd.func16, Tryd.ntmps16
  go_wp2_with (go_at_call 44; (with_reducible refine HD.out.mono ?_); rintro e w1 ⟨rfl, hR, hP⟩; have HR1 := Lib.hid hR; have HP1 := Lib.hid hP; clear hR hP)
  go_ret2
  exact ⟨rfl, HR1.out, HP1.out⟩
theorem stry_ok (hs : SemM w bs bk bw pl d g) (hq : d < IntKind.u64.wrap (pl + g)) :
    Calls Tryd.prog 16 #[.pointer (some ⟨bs, 0, none⟩)] w (WholeS w bs bk bw pl (up d) g ((.tuple #[.int .u64 d, .int .i64 0]))) := by
  have h := Int.not_le.2 hq
  have HD : Hid (Calls Tryd.prog 44 #[.pointer (some ⟨bs, 0, none⟩), .int .u8 2] w (WholeS w bs bk bw pl (up d) g (.tuple #[.int .u64 d, .int .i64 0]))) := Lib.hid (sdo_3 (d2 := d) (g2 := g) (d3 := d) (g3 := g) (o1 := ⟨2, 1, g, 0, 0, 0⟩) (o2 := ⟨2, 2, g, d, 0, 0⟩) (o3 := ⟨2, 9, g, d, d, 0⟩) hs (by omega) (by simp [stepS, newS]) (by simp [stepD, newS]) (by simp [stepG, newS]) (by simp) (by simp [stepS, h]) (by simp [stepD]) (by simp [stepG]) (by simp) (by simp [stepS]) (by simp [stepD]) (by simp [stepG]) rfl rfl rfl)
  go_enter Tryd.func16, Tryd.ntmps16
  go_wp2_with (go_at_call 44; (with_reducible refine HD.out.mono ?_); rintro e w1 ⟨rfl, hR, hP⟩; have HR1 := Lib.hid hR; have HP1 := Lib.hid hP; clear hR hP)
  go_ret2
  exact ⟨rfl, HR1.out, HP1.out⟩
theorem sleave_free (hs : SemM w bs bk bw pl d g) (h : d ≤ g) :
    Calls Tryd.prog 17 #[.pointer (some ⟨bs, 0, none⟩)] w (WholeS w bs bk bw pl d g (.int .i64 70)) := by
  have HD : Hid (Calls Tryd.prog 44 #[.pointer (some ⟨bs, 0, none⟩), .int .u8 3] w (WholeS w bs bk bw pl d g (.tuple #[.int .u64 0, .int .i64 70]))) := Lib.hid (sdo_2 (d2 := d) (g2 := g) (o1 := ⟨3, 1, g, 0, 0, 0⟩) (o2 := ⟨3, 9, g, 0, 0, 70⟩) hs (by omega) (by simp [stepS, newS]) (by simp [stepD, newS]) (by simp [stepG, newS]) (by simp) (by simp [stepS, h]) (by simp [stepD]) (by simp [stepG]) rfl rfl rfl)
  go_enter Tryd.func17, Tryd.ntmps17
  go_wp2_with (go_at_call 44; (with_reducible refine HD.out.mono ?_); rintro e w1 ⟨rfl, hR, hP⟩; have HR1 := Lib.hid hR; have HP1 := Lib.hid hP; clear hR hP)
  go_ret
  exact ⟨rfl, HR1.out, HP1.out⟩
theorem sleave_ok (hs : SemM w bs bk bw pl d g) (hq : g < d) :
    Calls Tryd.prog 17 #[.pointer (some ⟨bs, 0, none⟩)] w (WholeS w bs bk bw pl d (up g) (.int .i64 0)) := by
  have h := Int.not_le.2 hq
  have HD : Hid (Calls Tryd.prog 44 #[.pointer (some ⟨bs, 0, none⟩), .int .u8 3] w (WholeS w bs bk bw pl d (up g) (.tuple #[.int .u64 (up g), .int .i64 0]))) := Lib.hid (sdo_3 (d2 := d) (g2 := g) (d3 := d) (g3 := g) (o1 := ⟨3, 1, g, 0, 0, 0⟩) (o2 := ⟨3, 2, g, d, 0, 0⟩) (o3 := ⟨3, 9, g, d, up g, 0⟩) hs (by omega) (by simp [stepS, newS]) (by simp [stepD, newS]) (by simp [stepG, newS]) (by simp) (by simp [stepS, h]) (by simp [stepD]) (by simp [stepG]) (by simp) (by simp [stepS]) (by simp [stepD]) (by simp [stepG]) rfl rfl rfl)
  go_enter Tryd.func17, Tryd.ntmps17
  go_wp2_with (go_at_call 44; (with_reducible refine HD.out.mono ?_); rintro e w1 ⟨rfl, hR, hP⟩; have HR1 := Lib.hid hR; have HP1 := Lib.hid hP; clear hR hP)
  go_ret
  exact ⟨rfl, HR1.out, HP1.out⟩
theorem sinside_any (hs : SemM w bs bk bw pl d g) :
    Calls Tryd.prog 18 #[.pointer (some ⟨bs, 0, none⟩)] w (WholeS w bs bk bw pl d g ((.tuple #[.int .u64 (IntKind.u64.wrap (min d (IntKind.u64.wrap (pl + g)) - g)), .int .i64 0]))) := by
  have HD : Hid (Calls Tryd.prog 44 #[.pointer (some ⟨bs, 0, none⟩), .int .u8 4] w (WholeS w bs bk bw pl d g (.tuple #[.int .u64 (IntKind.u64.wrap (min d (IntKind.u64.wrap (pl + g)) - g)), .int .i64 0]))) := Lib.hid (sdo_2 (d2 := d) (g2 := g) (o1 := ⟨4, 1, g, 0, 0, 0⟩) (o2 := ⟨4, 9, g, 0, IntKind.u64.wrap (min d (IntKind.u64.wrap (pl + g)) - g), 0⟩) hs (by omega) (by simp [stepS, newS]) (by simp [stepD, newS]) (by simp [stepG, newS]) (by simp) (by simp [stepS]) (by simp [stepD]) (by simp [stepG]) rfl rfl rfl)
  go_enter Tryd.func18, Tryd.ntmps18
  go_wp2_with (go_at_call 44; (with_reducible refine HD.out.mono ?_); rintro e w1 ⟨rfl, hR, hP⟩; have HR1 := Lib.hid hR; have HP1 := Lib.hid hP; clear hR hP)
  go_ret2
  exact ⟨rfl, HR1.out, HP1.out⟩
end
theorem up_at {w : World} {bs bk bw : Nat} {pl d g d' g' : Int} {v : Value} {e : Ending} {w' : World} (h : WholeS w bs bk bw pl d g v e w') (h1 : d = d') (h2 : g = g') : WholeS w bs bk bw pl d' g' v e w' := by subst h1 h2; exact h
end Go.Proofs.YteoekkhgpdhnhaaDoor
