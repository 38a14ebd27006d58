/- THE WALKS of package sem: leave$1, inside$1, raise$1; load$1 and look$1$1 over what the next function leaves. -/
import Derived.Test.YtamigipljgijlaaNa
import Derived.Lib.MinMax
import Derived.Deep.RegionHeld3
namespace Go.Proofs.Ytamigipljgijlaa
open Go Go.RowKit
set_option maxRecDepth 100000
section
variable {w : World} {bp bs b b1 b2 b3 : Nat} {nx cv : Value} {an wy pl gave drew k c saw put ans : Int}
theorem leave1_free (hp : Row w bp 69 (pendM bs nx an wy)) (hs : Row w bs 66 [cv, .int .u64 pl]) (hb : Row w b 35 [.pointer (some ⟨bp, 0, none⟩)]) (hlt : decide (drew ≤ gave) = true) :
    Calls Try.prog 41 #[.int .u64 gave, .int .u64 drew, .pointer (some ⟨b, 0, none⟩)] w fun e w' => e = .returned (.tuple #[]) ∧ Row w' bp 69 (pendM bs .nilFunc 0 70) ∧ Part [bp] w w' := by
  have c1 : w.cell? ⟨b, 0, none⟩ = some (.pointer (some ⟨bp, 0, none⟩)) := hb.cell 0
  have p0 : w.cell? ⟨bp, 0, none⟩ = some (.pointer (some ⟨bs, 0, none⟩)) := hp.cell 0
  have HP := Lib.hid hp
  have HS := Lib.hid hs
  clear hp hs hb
  go_enter Try.func41, Try.ntmps41
  go_wp2_with (first
    | (go_at_call 38; (with_reducible refine (served_any HS.out).mono ?_); rintro e wx ⟨rfl, rfl⟩)
    | (go_at_call 39; (with_reducible refine (end_any HP.out).mono ?_); rintro e w1 ⟨rfl, hr, hP⟩; have HR := Lib.hid hr; have HQ := Lib.hid hP; clear hr hP))
  go_end0
  exact ⟨rfl, HR.out, HQ.out⟩
theorem leave1_more (hp : Row w bp 69 (pendM bs nx an wy)) (hs : Row w bs 66 [cv, .int .u64 pl]) (hb : Row w b 35 [.pointer (some ⟨bp, 0, none⟩)]) (hlt : decide (drew ≤ gave) = false) :
    Calls Try.prog 41 #[.int .u64 gave, .int .u64 drew, .pointer (some ⟨b, 0, none⟩)] w fun e w' => e = .returned (.tuple #[]) ∧ ∃ nx', Row w' bp 69 (pendM bs nx' an wy) ∧ RaiseM w' bp nx' 1 gave (IntKind.u64.wrap (gave + 1)) (.func (.func 25) #[.pointer (some ⟨bp, 0, none⟩)] #[]) ∧ Part [bp] w w' := by
  have c1 : w.cell? ⟨b, 0, none⟩ = some (.pointer (some ⟨bp, 0, none⟩)) := hb.cell 0
  have p0 : w.cell? ⟨bp, 0, none⟩ = some (.pointer (some ⟨bs, 0, none⟩)) := hp.cell 0
  have HP := Lib.hid hp
  have HS := Lib.hid hs
  clear hp hs hb
  go_enter Try.func41, Try.ntmps41
  go_wp2_with (first
    | (go_at_call 38; (with_reducible refine (served_any HS.out).mono ?_); rintro e wx ⟨rfl, rfl⟩)
    | (go_at_call 40; (with_reducible refine (raise_any HP.out).mono ?_); rintro e w1 ⟨rfl, nx', hr, ha, hP⟩; have HR := Lib.hid hr; have HA := Lib.hid ha; have HQ := Lib.hid hP; clear hr ha hP))
  go_end0
  exact ⟨rfl, nx', HR.out, HA.out, HQ.out⟩
theorem inside1_any (hp : Row w bp 69 (pendM bs nx an wy)) (hs : Row w bs 66 [cv, .int .u64 pl]) (hb : Row w b 35 [.pointer (some ⟨bp, 0, none⟩)]) :
    Calls Try.prog 42 #[.int .u64 gave, .int .u64 drew, .pointer (some ⟨b, 0, none⟩)] w fun e w' => e = .returned (.tuple #[]) ∧ Row w' bp 69 (pendM bs .nilFunc (IntKind.u64.wrap (min drew (IntKind.u64.wrap (pl + gave)) - gave)) 0) ∧ Part [bp] w w' := by
  have c1 : w.cell? ⟨b, 0, none⟩ = some (.pointer (some ⟨bp, 0, none⟩)) := hb.cell 0
  have p0 : w.cell? ⟨bp, 0, none⟩ = some (.pointer (some ⟨bs, 0, none⟩)) := hp.cell 0
  have HP := Lib.hid hp
  have HS := Lib.hid hs
  have HB := Lib.hid hb
  have HNB : Hid (b ∉ [bp]) := Lib.hid (by simpa using hb.ne hp (by decide))
  clear hp hs hb
  go_enter Try.func42, Try.ntmps42
  go_region_held3 (fun w' => w'.cell? ⟨b, 0, none⟩ = some (.pointer (some ⟨bp, 0, none⟩)) ∧ w'.cell? ⟨bp, 0, none⟩ = some (.pointer (some ⟨bs, 0, none⟩)))
    (first | (with_reducible exact ⟨c1, p0⟩) | (exact ⟨c1', p0'⟩) | go_keep)
    (first
    | (go_at_call 38; (with_reducible refine (served_any HS.out.drew).mono ?_); rintro e wx ⟨rfl, rfl⟩)
    | (go_at_call 38; (with_reducible refine (served_any HS.out).mono ?_); rintro e wx ⟨rfl, rfl⟩)
    | (go_at_call 39; (with_reducible refine (end_any HP.out.drew).mono ?_); rintro e w1 ⟨rfl, hr, hP⟩; have HR := Lib.hid hr; have HQ := Lib.hid hP; have c1' := ((Row.drew HB.out).part hP HNB.out).cell 0; have p0' : w1.cell? ⟨bp, 0, none⟩ = some (.pointer (some ⟨bs, 0, none⟩)) := hr.cell 0; clear hr hP)
    | (go_at_call 39; (with_reducible refine (end_any HP.out).mono ?_); rintro e w1 ⟨rfl, hr, hP⟩; have HR := Lib.hid hr; have HQ := Lib.hid hP; have c1' := (HB.out.part hP HNB.out).cell 0; have p0' : w1.cell? ⟨bp, 0, none⟩ = some (.pointer (some ⟨bs, 0, none⟩)) := hr.cell 0; clear hr hP))
  all_goals
    go_wp2_with fail
    go_end0
    first | exact ⟨rfl, HR.out, ((Part.refl [bp] w).drew).then_ HQ.out⟩ | exact ⟨rfl, HR.out, HQ.out⟩
theorem raise1_ok (hp : Row w bp 69 (pendM bs nx an wy)) (h1 : Row w b1 35 [.pointer (some ⟨bp, 0, none⟩)]) (h2 : Row w b2 29 [.int .u64 ans]) :
    Calls Try.prog 49 #[.agg #[.int .u8 k, .int .i64 c, .int .u64 saw, .int .u64 put, .bool true], .pointer (some ⟨b1, 0, none⟩), .pointer (some ⟨b2, 0, none⟩), .pointer (some ⟨b3, 0, none⟩)] w fun e w' => e = .returned (.tuple #[]) ∧ Row w' bp 69 (pendM bs .nilFunc ans 0) ∧ Part [bp] w w' := by
  have c1 : w.cell? ⟨b1, 0, none⟩ = some (.pointer (some ⟨bp, 0, none⟩)) := h1.cell 0
  have l1 := h1.lt
  have HP := Lib.hid hp
  have c2 : w.cell? ⟨b2, 0, none⟩ = some (.int .u64 ans) := h2.cell 0
  have l2 := h2.lt
  clear hp h1 h2
  go_enter Try.func49, Try.ntmps49
  go_wp2_with (first
    | (go_at_call 39; (with_reducible refine (end_any (HP.out.alloc _)).mono ?_); rintro e w1 ⟨rfl, hr, hP⟩; have HR := Lib.hid hr; have HQ := Lib.hid hP; clear hr hP))
  go_end0
  exact ⟨rfl, HR.out, ((Part.refl [bp] w).alloc _).then_ HQ.out⟩
theorem raise1_try (hp : Row w bp 69 (pendM bs nx an wy)) (h1 : Row w b1 35 [.pointer (some ⟨bp, 0, none⟩)]) (h3 : Row w b3 1 [.func (.func 24) #[.pointer (some ⟨bp, 0, none⟩)] #[]]) :
    Calls Try.prog 49 #[.agg #[.int .u8 k, .int .i64 c, .int .u64 saw, .int .u64 put, .bool false], .pointer (some ⟨b1, 0, none⟩), .pointer (some ⟨b2, 0, none⟩), .pointer (some ⟨b3, 0, none⟩)] w fun e w' => e = .returned (.tuple #[]) ∧ ∃ nx', Row w' bp 69 (pendM bs nx' an wy) ∧ LookM w' bp nx' 37 ∧ Part [bp] w w' := by
  have c1 : w.cell? ⟨b1, 0, none⟩ = some (.pointer (some ⟨bp, 0, none⟩)) := h1.cell 0
  have l1 := h1.lt
  have HP := Lib.hid hp
  have c3 : w.cell? ⟨b3, 0, none⟩ = some (.func (.func 24) #[.pointer (some ⟨bp, 0, none⟩)] #[]) := h3.cell 0
  have l3 := h3.lt
  clear hp h1 h3
  go_enter Try.func49, Try.ntmps49
  go_wp2_with (first
    | (go_at_call 24; (with_reducible refine (try_any (HP.out.alloc _)).mono ?_); rintro e w1 ⟨rfl, nx', hr, ha, hP⟩; have HR := Lib.hid hr; have HA := Lib.hid ha; have HQ := Lib.hid hP; clear hr ha hP))
  go_end0
  exact ⟨rfl, nx', HR.out, HA.out, ((Part.refl [bp] w).alloc _).then_ HQ.out⟩
theorem raise1_leave (hp : Row w bp 69 (pendM bs nx an wy)) (h1 : Row w b1 35 [.pointer (some ⟨bp, 0, none⟩)]) (h3 : Row w b3 1 [.func (.func 25) #[.pointer (some ⟨bp, 0, none⟩)] #[]]) :
    Calls Try.prog 49 #[.agg #[.int .u8 k, .int .i64 c, .int .u64 saw, .int .u64 put, .bool false], .pointer (some ⟨b1, 0, none⟩), .pointer (some ⟨b2, 0, none⟩), .pointer (some ⟨b3, 0, none⟩)] w fun e w' => e = .returned (.tuple #[]) ∧ ∃ nx', Row w' bp 69 (pendM bs nx' an wy) ∧ LookM w' bp nx' 41 ∧ Part [bp] w w' := by
  have c1 : w.cell? ⟨b1, 0, none⟩ = some (.pointer (some ⟨bp, 0, none⟩)) := h1.cell 0
  have l1 := h1.lt
  have HP := Lib.hid hp
  have c3 : w.cell? ⟨b3, 0, none⟩ = some (.func (.func 25) #[.pointer (some ⟨bp, 0, none⟩)] #[]) := h3.cell 0
  have l3 := h3.lt
  clear hp h1 h3
  go_enter Try.func49, Try.ntmps49
  go_wp2_with (first
    | (go_at_call 25; (with_reducible refine (leave_any (HP.out.alloc _)).mono ?_); rintro e w1 ⟨rfl, nx', hr, ha, hP⟩; have HR := Lib.hid hr; have HA := Lib.hid ha; have HQ := Lib.hid hP; clear hr ha hP))
  go_end0
  exact ⟨rfl, nx', HR.out, HA.out, ((Part.refl [bp] w).alloc _).then_ HQ.out⟩
end
/-- what a function that is handed something leaves: the operation is another one; nothing else turns -/
def TellTo (wc : World) (bp bs : Nat) (G : World → Value → Int → Int → Prop) (e : Ending) (w3 : World) : Prop :=
  e = .returned (.tuple #[]) ∧ ∃ nx an wy, Row w3 bp 69 (pendM bs nx an wy) ∧ G w3 nx an wy ∧ Part [bp] wc w3
section
variable {w : World} {bp bs b b1 b2 b3 : Nat} {k c saw put gave drew : Int} {ok : Bool} {G : World → Value → Int → Int → Prop}
theorem load1_wait (hb : Row w b 80 [.func (.func 46) #[] #[.pointer (some ⟨b1, 0, none⟩), .pointer (some ⟨b2, 0, none⟩)]]) (hT : ∀ o, Calls Try.prog 46 #[.int .u64 saw, .pointer (some ⟨b1, 0, none⟩), .pointer (some ⟨b2, 0, none⟩)] (w.alloc o) (TellTo (w.alloc o) bp bs G)) :
    Calls Try.prog 53 #[.agg #[.int .u8 k, .int .i64 c, .int .u64 saw, .int .u64 put, .bool ok], .pointer (some ⟨b, 0, none⟩)] w (TellTo w bp bs G) := by
  have c1 : w.cell? ⟨b, 0, none⟩ = some (.func (.func 46) #[] #[.pointer (some ⟨b1, 0, none⟩), .pointer (some ⟨b2, 0, none⟩)]) := hb.cell 0
  have l1 := hb.lt
  have HT := Lib.hid hT
  clear hb hT
  go_enter Try.func53, Try.ntmps53
  go_wp2_with (go_at_call 46; (with_reducible refine (HT.out _).mono ?_); rintro e w1 ⟨rfl, nx', an', wy', hr, ha, hP⟩; have HR := Lib.hid hr; have HA := Lib.hid ha; have HQ := Lib.hid hP; clear hr ha hP)
  go_end0
  exact ⟨rfl, nx', an', wy', HR.out, HA.out, ((Part.refl [bp] w).alloc _).then_ HQ.out⟩
theorem load1_look (hb : Row w b 80 [.func (.func 47) #[] #[.pointer (some ⟨b1, 0, none⟩), .pointer (some ⟨b2, 0, none⟩)]]) (hT : ∀ o, Calls Try.prog 47 #[.int .u64 saw, .pointer (some ⟨b1, 0, none⟩), .pointer (some ⟨b2, 0, none⟩)] (w.alloc o) (TellTo (w.alloc o) bp bs G)) :
    Calls Try.prog 53 #[.agg #[.int .u8 k, .int .i64 c, .int .u64 saw, .int .u64 put, .bool ok], .pointer (some ⟨b, 0, none⟩)] w (TellTo w bp bs G) := by
  have c1 : w.cell? ⟨b, 0, none⟩ = some (.func (.func 47) #[] #[.pointer (some ⟨b1, 0, none⟩), .pointer (some ⟨b2, 0, none⟩)]) := hb.cell 0
  have l1 := hb.lt
  have HT := Lib.hid hT
  clear hb hT
  go_enter Try.func53, Try.ntmps53
  go_wp2_with (go_at_call 47; (with_reducible refine (HT.out _).mono ?_); rintro e w1 ⟨rfl, nx', an', wy', hr, ha, hP⟩; have HR := Lib.hid hr; have HA := Lib.hid ha; have HQ := Lib.hid hP; clear hr ha hP)
  go_end0
  exact ⟨rfl, nx', an', wy', HR.out, HA.out, ((Part.refl [bp] w).alloc _).then_ HQ.out⟩
theorem load1_seen (hb : Row w b 80 [.func (.func 48) #[] #[.pointer (some ⟨b1, 0, none⟩), .pointer (some ⟨b2, 0, none⟩)]]) (hT : ∀ o, Calls Try.prog 48 #[.int .u64 saw, .pointer (some ⟨b1, 0, none⟩), .pointer (some ⟨b2, 0, none⟩)] (w.alloc o) (TellTo (w.alloc o) bp bs G)) :
    Calls Try.prog 53 #[.agg #[.int .u8 k, .int .i64 c, .int .u64 saw, .int .u64 put, .bool ok], .pointer (some ⟨b, 0, none⟩)] w (TellTo w bp bs G) := by
  have c1 : w.cell? ⟨b, 0, none⟩ = some (.func (.func 48) #[] #[.pointer (some ⟨b1, 0, none⟩), .pointer (some ⟨b2, 0, none⟩)]) := hb.cell 0
  have l1 := hb.lt
  have HT := Lib.hid hT
  clear hb hT
  go_enter Try.func53, Try.ntmps53
  go_wp2_with (go_at_call 48; (with_reducible refine (HT.out _).mono ?_); rintro e w1 ⟨rfl, nx', an', wy', hr, ha, hP⟩; have HR := Lib.hid hr; have HA := Lib.hid ha; have HQ := Lib.hid hP; clear hr ha hP)
  go_end0
  exact ⟨rfl, nx', an', wy', HR.out, HA.out, ((Part.refl [bp] w).alloc _).then_ HQ.out⟩
theorem seen1_try (h1 : Row w b1 86 [fnB 37 b3]) (h2 : Row w b2 29 [.int .u64 gave]) (hT : Calls Try.prog 37 #[.int .u64 gave, .int .u64 drew, .pointer (some ⟨b3, 0, none⟩)] w (TellTo w bp bs G)) :
    Calls Try.prog 48 #[.int .u64 drew, .pointer (some ⟨b1, 0, none⟩), .pointer (some ⟨b2, 0, none⟩)] w (TellTo w bp bs G) := by
  have c1 : w.cell? ⟨b1, 0, none⟩ = some (.func (.func 37) #[] #[.pointer (some ⟨b3, 0, none⟩)]) := h1.cell 0
  have c2 : w.cell? ⟨b2, 0, none⟩ = some (.int .u64 gave) := h2.cell 0
  have HT := Lib.hid hT
  clear h1 h2 hT
  go_enter Try.func48, Try.ntmps48
  go_wp2_with (go_at_call 37; (with_reducible refine HT.out.mono ?_); rintro e w1 ⟨rfl, nx', an', wy', hr, ha, hP⟩; have HR := Lib.hid hr; have HA := Lib.hid ha; have HQ := Lib.hid hP; clear hr ha hP)
  go_end0
  exact ⟨rfl, nx', an', wy', HR.out, HA.out, HQ.out⟩
theorem seen1_leave (h1 : Row w b1 86 [fnB 41 b3]) (h2 : Row w b2 29 [.int .u64 gave]) (hT : Calls Try.prog 41 #[.int .u64 gave, .int .u64 drew, .pointer (some ⟨b3, 0, none⟩)] w (TellTo w bp bs G)) :
    Calls Try.prog 48 #[.int .u64 drew, .pointer (some ⟨b1, 0, none⟩), .pointer (some ⟨b2, 0, none⟩)] w (TellTo w bp bs G) := by
  have c1 : w.cell? ⟨b1, 0, none⟩ = some (.func (.func 41) #[] #[.pointer (some ⟨b3, 0, none⟩)]) := h1.cell 0
  have c2 : w.cell? ⟨b2, 0, none⟩ = some (.int .u64 gave) := h2.cell 0
  have HT := Lib.hid hT
  clear h1 h2 hT
  go_enter Try.func48, Try.ntmps48
  go_wp2_with (go_at_call 41; (with_reducible refine HT.out.mono ?_); rintro e w1 ⟨rfl, nx', an', wy', hr, ha, hP⟩; have HR := Lib.hid hr; have HA := Lib.hid ha; have HQ := Lib.hid hP; clear hr ha hP)
  go_end0
  exact ⟨rfl, nx', an', wy', HR.out, HA.out, HQ.out⟩
theorem seen1_inside (h1 : Row w b1 86 [fnB 42 b3]) (h2 : Row w b2 29 [.int .u64 gave]) (hT : Calls Try.prog 42 #[.int .u64 gave, .int .u64 drew, .pointer (some ⟨b3, 0, none⟩)] w (TellTo w bp bs G)) :
    Calls Try.prog 48 #[.int .u64 drew, .pointer (some ⟨b1, 0, none⟩), .pointer (some ⟨b2, 0, none⟩)] w (TellTo w bp bs G) := by
  have c1 : w.cell? ⟨b1, 0, none⟩ = some (.func (.func 42) #[] #[.pointer (some ⟨b3, 0, none⟩)]) := h1.cell 0
  have c2 : w.cell? ⟨b2, 0, none⟩ = some (.int .u64 gave) := h2.cell 0
  have HT := Lib.hid hT
  clear h1 h2 hT
  go_enter Try.func48, Try.ntmps48
  go_wp2_with (go_at_call 42; (with_reducible refine HT.out.mono ?_); rintro e w1 ⟨rfl, nx', an', wy', hr, ha, hP⟩; have HR := Lib.hid hr; have HA := Lib.hid ha; have HQ := Lib.hid hP; clear hr ha hP)
  go_end0
  exact ⟨rfl, nx', an', wy', HR.out, HA.out, HQ.out⟩
end
end Go.Proofs.Ytamigipljgijlaa
