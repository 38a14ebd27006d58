/- THE WALKS of package sem: leave$1, inside$1, raise$1; load$1 and look$1$1 over what the next function leaves. -/
import Derived.Test.YteoekkhgpdhnhaaDoorNa
import Derived.Lib.MinMax
import Derived.Deep.RegionHeld3
namespace Go.Proofs.YteoekkhgpdhnhaaDoor
open Go Go.RowKit
set_option maxRecDepth 100000
section
variable {w : World} {bp bs b b1 b2 b3 : Nat} {nx cv : Value} {an wy pl gave drew k c saw put ans : Int}
theorem leave1_free (hp : Row w bp 179 (pendM bs nx an wy)) (hs : Row w bs 100 [cv, .int .u64 pl]) (hb : Row w b 158 [.pointer (some ⟨bp, 0, none⟩)]) (hlt : decide (drew ≤ gave) = true) :
    Calls Tryd.prog 114 #[.int .u64 gave, .int .u64 drew, .pointer (some ⟨b, 0, none⟩)] w fun e w' => e = .returned (.tuple #[]) ∧ Row w' bp 179 (pendM bs .nilFunc 0 70) ∧ Part [bp] w w' := by
  have c1 : w.cell? ⟨b, 0, none⟩ = some (.pointer (some ⟨bp, 0, none⟩)) := hb.cell 0
  have p0 : w.cell? ⟨bp, 0, none⟩ = some (.pointer (some ⟨bs, 0, none⟩)) := hp.cell 0
  have HP := Lib.hid hp
  have HS := Lib.hid hs
  clear hp hs hb
  go_enter Tryd.func114, Tryd.ntmps114
  go_wp2_with (first
    | (go_at_call 111; (with_reducible refine (served_any HS.out).mono ?_); rintro e wx ⟨rfl, rfl⟩)
    | (go_at_call 112; (with_reducible refine (end_any HP.out).mono ?_); rintro e w1 ⟨rfl, hr, hP⟩; have HR := Lib.hid hr; have HQ := Lib.hid hP; clear hr hP))
  go_end0
  exact ⟨rfl, HR.out, HQ.out⟩
theorem leave1_more (hp : Row w bp 179 (pendM bs nx an wy)) (hs : Row w bs 100 [cv, .int .u64 pl]) (hb : Row w b 158 [.pointer (some ⟨bp, 0, none⟩)]) (hlt : decide (drew ≤ gave) = false) :
    Calls Tryd.prog 114 #[.int .u64 gave, .int .u64 drew, .pointer (some ⟨b, 0, none⟩)] w fun e w' => e = .returned (.tuple #[]) ∧ ∃ nx', Row w' bp 179 (pendM bs nx' an wy) ∧ RaiseM w' bp nx' 1 gave (IntKind.u64.wrap (gave + 1)) (.func (.func 92) #[.pointer (some ⟨bp, 0, none⟩)] #[]) ∧ Part [bp] w w' := by
  have c1 : w.cell? ⟨b, 0, none⟩ = some (.pointer (some ⟨bp, 0, none⟩)) := hb.cell 0
  have p0 : w.cell? ⟨bp, 0, none⟩ = some (.pointer (some ⟨bs, 0, none⟩)) := hp.cell 0
  have HP := Lib.hid hp
  have HS := Lib.hid hs
  clear hp hs hb
  go_enter Tryd.func114, Tryd.ntmps114
  go_wp2_with (first
    | (go_at_call 111; (with_reducible refine (served_any HS.out).mono ?_); rintro e wx ⟨rfl, rfl⟩)
    | (go_at_call 113; (with_reducible refine (raise_any HP.out).mono ?_); rintro e w1 ⟨rfl, nx', hr, ha, hP⟩; have HR := Lib.hid hr; have HA := Lib.hid ha; have HQ := Lib.hid hP; clear hr ha hP))
  go_end0
  exact ⟨rfl, nx', HR.out, HA.out, HQ.out⟩
theorem inside1_any (hp : Row w bp 179 (pendM bs nx an wy)) (hs : Row w bs 100 [cv, .int .u64 pl]) (hb : Row w b 158 [.pointer (some ⟨bp, 0, none⟩)]) :
    Calls Tryd.prog 115 #[.int .u64 gave, .int .u64 drew, .pointer (some ⟨b, 0, none⟩)] w fun e w' => e = .returned (.tuple #[]) ∧ Row w' bp 179 (pendM bs .nilFunc (IntKind.u64.wrap (min drew (IntKind.u64.wrap (pl + gave)) - gave)) 0) ∧ Part [bp] w w' := by
  have c1 : w.cell? ⟨b, 0, none⟩ = some (.pointer (some ⟨bp, 0, none⟩)) := hb.cell 0
  have p0 : w.cell? ⟨bp, 0, none⟩ = some (.pointer (some ⟨bs, 0, none⟩)) := hp.cell 0
  have HP := Lib.hid hp
  have HS := Lib.hid hs
  have HB := Lib.hid hb
  have HNB : Hid (b ∉ [bp]) := Lib.hid (by simpa using hb.ne hp (by decide))
  clear hp hs hb
  go_enter Tryd.func115, Tryd.ntmps115
  go_region_held3 (fun w' => w'.cell? ⟨b, 0, none⟩ = some (.pointer (some ⟨bp, 0, none⟩)) ∧ w'.cell? ⟨bp, 0, none⟩ = some (.pointer (some ⟨bs, 0, none⟩)))
    (first | (with_reducible exact ⟨c1, p0⟩) | (exact ⟨c1', p0'⟩) | go_keep)
    (first
    | (go_at_call 111; (with_reducible refine (served_any HS.out.drew).mono ?_); rintro e wx ⟨rfl, rfl⟩)
    | (go_at_call 111; (with_reducible refine (served_any HS.out).mono ?_); rintro e wx ⟨rfl, rfl⟩)
    | (go_at_call 112; (with_reducible refine (end_any HP.out.drew).mono ?_); rintro e w1 ⟨rfl, hr, hP⟩; have HR := Lib.hid hr; have HQ := Lib.hid hP; have c1' := ((Row.drew HB.out).part hP HNB.out).cell 0; have p0' : w1.cell? ⟨bp, 0, none⟩ = some (.pointer (some ⟨bs, 0, none⟩)) := hr.cell 0; clear hr hP)
    | (go_at_call 112; (with_reducible refine (end_any HP.out).mono ?_); rintro e w1 ⟨rfl, hr, hP⟩; have HR := Lib.hid hr; have HQ := Lib.hid hP; have c1' := (HB.out.part hP HNB.out).cell 0; have p0' : w1.cell? ⟨bp, 0, none⟩ = some (.pointer (some ⟨bs, 0, none⟩)) := hr.cell 0; clear hr hP))
  all_goals
    go_wp2_with fail
    go_end0
    first | exact ⟨rfl, HR.out, ((Part.refl [bp] w).drew).then_ HQ.out⟩ | exact ⟨rfl, HR.out, HQ.out⟩
theorem raise1_ok (hp : Row w bp 179 (pendM bs nx an wy)) (h1 : Row w b1 158 [.pointer (some ⟨bp, 0, none⟩)]) (h2 : Row w b2 37 [.int .u64 ans]) :
    Calls Tryd.prog 134 #[.agg #[.int .u8 k, .int .i64 c, .int .u64 saw, .int .u64 put, .bool true], .pointer (some ⟨b1, 0, none⟩), .pointer (some ⟨b2, 0, none⟩), .pointer (some ⟨b3, 0, none⟩)] w fun e w' => e = .returned (.tuple #[]) ∧ Row w' bp 179 (pendM bs .nilFunc ans 0) ∧ Part [bp] w w' := by
  have c1 : w.cell? ⟨b1, 0, none⟩ = some (.pointer (some ⟨bp, 0, none⟩)) := h1.cell 0
  have l1 := h1.lt
  have HP := Lib.hid hp
  have c2 : w.cell? ⟨b2, 0, none⟩ = some (.int .u64 ans) := h2.cell 0
  have l2 := h2.lt
  clear hp h1 h2
  go_enter Tryd.func134, Tryd.ntmps134
  go_wp2_with (first
    | (go_at_call 112; (with_reducible refine (end_any (HP.out.alloc _)).mono ?_); rintro e w1 ⟨rfl, hr, hP⟩; have HR := Lib.hid hr; have HQ := Lib.hid hP; clear hr hP))
  go_end0
  exact ⟨rfl, HR.out, ((Part.refl [bp] w).alloc _).then_ HQ.out⟩
theorem raise1_try (hp : Row w bp 179 (pendM bs nx an wy)) (h1 : Row w b1 158 [.pointer (some ⟨bp, 0, none⟩)]) (h3 : Row w b3 1 [.func (.func 91) #[.pointer (some ⟨bp, 0, none⟩)] #[]]) :
    Calls Tryd.prog 134 #[.agg #[.int .u8 k, .int .i64 c, .int .u64 saw, .int .u64 put, .bool false], .pointer (some ⟨b1, 0, none⟩), .pointer (some ⟨b2, 0, none⟩), .pointer (some ⟨b3, 0, none⟩)] w fun e w' => e = .returned (.tuple #[]) ∧ ∃ nx', Row w' bp 179 (pendM bs nx' an wy) ∧ LookM w' bp nx' 110 ∧ Part [bp] w w' := by
  have c1 : w.cell? ⟨b1, 0, none⟩ = some (.pointer (some ⟨bp, 0, none⟩)) := h1.cell 0
  have l1 := h1.lt
  have HP := Lib.hid hp
  have c3 : w.cell? ⟨b3, 0, none⟩ = some (.func (.func 91) #[.pointer (some ⟨bp, 0, none⟩)] #[]) := h3.cell 0
  have l3 := h3.lt
  clear hp h1 h3
  go_enter Tryd.func134, Tryd.ntmps134
  go_wp2_with (first
    | (go_at_call 91; (with_reducible refine (try_any (HP.out.alloc _)).mono ?_); rintro e w1 ⟨rfl, nx', hr, ha, hP⟩; have HR := Lib.hid hr; have HA := Lib.hid ha; have HQ := Lib.hid hP; clear hr ha hP))
  go_end0
  exact ⟨rfl, nx', HR.out, HA.out, ((Part.refl [bp] w).alloc _).then_ HQ.out⟩
theorem raise1_leave (hp : Row w bp 179 (pendM bs nx an wy)) (h1 : Row w b1 158 [.pointer (some ⟨bp, 0, none⟩)]) (h3 : Row w b3 1 [.func (.func 92) #[.pointer (some ⟨bp, 0, none⟩)] #[]]) :
    Calls Tryd.prog 134 #[.agg #[.int .u8 k, .int .i64 c, .int .u64 saw, .int .u64 put, .bool false], .pointer (some ⟨b1, 0, none⟩), .pointer (some ⟨b2, 0, none⟩), .pointer (some ⟨b3, 0, none⟩)] w fun e w' => e = .returned (.tuple #[]) ∧ ∃ nx', Row w' bp 179 (pendM bs nx' an wy) ∧ LookM w' bp nx' 114 ∧ Part [bp] w w' := by
  have c1 : w.cell? ⟨b1, 0, none⟩ = some (.pointer (some ⟨bp, 0, none⟩)) := h1.cell 0
  have l1 := h1.lt
  have HP := Lib.hid hp
  have c3 : w.cell? ⟨b3, 0, none⟩ = some (.func (.func 92) #[.pointer (some ⟨bp, 0, none⟩)] #[]) := h3.cell 0
  have l3 := h3.lt
  clear hp h1 h3
  go_enter Tryd.func134, Tryd.ntmps134
  go_wp2_with (first
    | (go_at_call 92; (with_reducible refine (leave_any (HP.out.alloc _)).mono ?_); rintro e w1 ⟨rfl, nx', hr, ha, hP⟩; have HR := Lib.hid hr; have HA := Lib.hid ha; have HQ := Lib.hid hP; clear hr ha hP))
  go_end0
  exact ⟨rfl, nx', HR.out, HA.out, ((Part.refl [bp] w).alloc _).then_ HQ.out⟩
end
/-- what a function that is handed something leaves: the operation is another one; nothing else turns -/
def TellTo (wc : World) (bp bs : Nat) (G : World → Value → Int → Int → Prop) (e : Ending) (w3 : World) : Prop :=
  e = .returned (.tuple #[]) ∧ ∃ nx an wy, Row w3 bp 179 (pendM bs nx an wy) ∧ G w3 nx an wy ∧ Part [bp] wc w3
section
variable {w : World} {bp bs b b1 b2 b3 : Nat} {k c saw put gave drew : Int} {ok : Bool} {G : World → Value → Int → Int → Prop}
theorem load1_wait (hb : Row w b 149 [.func (.func 131) #[] #[.pointer (some ⟨b1, 0, none⟩), .pointer (some ⟨b2, 0, none⟩)]]) (hT : ∀ o, Calls Tryd.prog 131 #[.int .u64 saw, .pointer (some ⟨b1, 0, none⟩), .pointer (some ⟨b2, 0, none⟩)] (w.alloc o) (TellTo (w.alloc o) bp bs G)) :
    Calls Tryd.prog 140 #[.agg #[.int .u8 k, .int .i64 c, .int .u64 saw, .int .u64 put, .bool ok], .pointer (some ⟨b, 0, none⟩)] w (TellTo w bp bs G) := by
  have c1 : w.cell? ⟨b, 0, none⟩ = some (.func (.func 131) #[] #[.pointer (some ⟨b1, 0, none⟩), .pointer (some ⟨b2, 0, none⟩)]) := hb.cell 0
  have l1 := hb.lt
  have HT := Lib.hid hT
  clear hb hT
  go_enter Tryd.func140, Tryd.ntmps140
  go_wp2_with (go_at_call 131; (with_reducible refine (HT.out _).mono ?_); rintro e w1 ⟨rfl, nx', an', wy', hr, ha, hP⟩; have HR := Lib.hid hr; have HA := Lib.hid ha; have HQ := Lib.hid hP; clear hr ha hP)
  go_end0
  exact ⟨rfl, nx', an', wy', HR.out, HA.out, ((Part.refl [bp] w).alloc _).then_ HQ.out⟩
theorem load1_look (hb : Row w b 149 [.func (.func 132) #[] #[.pointer (some ⟨b1, 0, none⟩), .pointer (some ⟨b2, 0, none⟩)]]) (hT : ∀ o, Calls Tryd.prog 132 #[.int .u64 saw, .pointer (some ⟨b1, 0, none⟩), .pointer (some ⟨b2, 0, none⟩)] (w.alloc o) (TellTo (w.alloc o) bp bs G)) :
    Calls Tryd.prog 140 #[.agg #[.int .u8 k, .int .i64 c, .int .u64 saw, .int .u64 put, .bool ok], .pointer (some ⟨b, 0, none⟩)] w (TellTo w bp bs G) := by
  have c1 : w.cell? ⟨b, 0, none⟩ = some (.func (.func 132) #[] #[.pointer (some ⟨b1, 0, none⟩), .pointer (some ⟨b2, 0, none⟩)]) := hb.cell 0
  have l1 := hb.lt
  have HT := Lib.hid hT
  clear hb hT
  go_enter Tryd.func140, Tryd.ntmps140
  go_wp2_with (go_at_call 132; (with_reducible refine (HT.out _).mono ?_); rintro e w1 ⟨rfl, nx', an', wy', hr, ha, hP⟩; have HR := Lib.hid hr; have HA := Lib.hid ha; have HQ := Lib.hid hP; clear hr ha hP)
  go_end0
  exact ⟨rfl, nx', an', wy', HR.out, HA.out, ((Part.refl [bp] w).alloc _).then_ HQ.out⟩
theorem load1_seen (hb : Row w b 149 [.func (.func 133) #[] #[.pointer (some ⟨b1, 0, none⟩), .pointer (some ⟨b2, 0, none⟩)]]) (hT : ∀ o, Calls Tryd.prog 133 #[.int .u64 saw, .pointer (some ⟨b1, 0, none⟩), .pointer (some ⟨b2, 0, none⟩)] (w.alloc o) (TellTo (w.alloc o) bp bs G)) :
    Calls Tryd.prog 140 #[.agg #[.int .u8 k, .int .i64 c, .int .u64 saw, .int .u64 put, .bool ok], .pointer (some ⟨b, 0, none⟩)] w (TellTo w bp bs G) := by
  have c1 : w.cell? ⟨b, 0, none⟩ = some (.func (.func 133) #[] #[.pointer (some ⟨b1, 0, none⟩), .pointer (some ⟨b2, 0, none⟩)]) := hb.cell 0
  have l1 := hb.lt
  have HT := Lib.hid hT
  clear hb hT
  go_enter Tryd.func140, Tryd.ntmps140
  go_wp2_with (go_at_call 133; (with_reducible refine (HT.out _).mono ?_); rintro e w1 ⟨rfl, nx', an', wy', hr, ha, hP⟩; have HR := Lib.hid hr; have HA := Lib.hid ha; have HQ := Lib.hid hP; clear hr ha hP)
  go_end0
  exact ⟨rfl, nx', an', wy', HR.out, HA.out, ((Part.refl [bp] w).alloc _).then_ HQ.out⟩
theorem seen1_try (h1 : Row w b1 197 [fnB 110 b3]) (h2 : Row w b2 37 [.int .u64 gave]) (hT : Calls Tryd.prog 110 #[.int .u64 gave, .int .u64 drew, .pointer (some ⟨b3, 0, none⟩)] w (TellTo w bp bs G)) :
    Calls Tryd.prog 133 #[.int .u64 drew, .pointer (some ⟨b1, 0, none⟩), .pointer (some ⟨b2, 0, none⟩)] w (TellTo w bp bs G) := by
  have c1 : w.cell? ⟨b1, 0, none⟩ = some (.func (.func 110) #[] #[.pointer (some ⟨b3, 0, none⟩)]) := h1.cell 0
  have c2 : w.cell? ⟨b2, 0, none⟩ = some (.int .u64 gave) := h2.cell 0
  have HT := Lib.hid hT
  clear h1 h2 hT
  go_enter Tryd.func133, Tryd.ntmps133
  go_wp2_with (go_at_call 110; (with_reducible refine HT.out.mono ?_); rintro e w1 ⟨rfl, nx', an', wy', hr, ha, hP⟩; have HR := Lib.hid hr; have HA := Lib.hid ha; have HQ := Lib.hid hP; clear hr ha hP)
  go_end0
  exact ⟨rfl, nx', an', wy', HR.out, HA.out, HQ.out⟩
theorem seen1_leave (h1 : Row w b1 197 [fnB 114 b3]) (h2 : Row w b2 37 [.int .u64 gave]) (hT : Calls Tryd.prog 114 #[.int .u64 gave, .int .u64 drew, .pointer (some ⟨b3, 0, none⟩)] w (TellTo w bp bs G)) :
    Calls Tryd.prog 133 #[.int .u64 drew, .pointer (some ⟨b1, 0, none⟩), .pointer (some ⟨b2, 0, none⟩)] w (TellTo w bp bs G) := by
  have c1 : w.cell? ⟨b1, 0, none⟩ = some (.func (.func 114) #[] #[.pointer (some ⟨b3, 0, none⟩)]) := h1.cell 0
  have c2 : w.cell? ⟨b2, 0, none⟩ = some (.int .u64 gave) := h2.cell 0
  have HT := Lib.hid hT
  clear h1 h2 hT
  go_enter Tryd.func133, Tryd.ntmps133
  go_wp2_with (go_at_call 114; (with_reducible refine HT.out.mono ?_); rintro e w1 ⟨rfl, nx', an', wy', hr, ha, hP⟩; have HR := Lib.hid hr; have HA := Lib.hid ha; have HQ := Lib.hid hP; clear hr ha hP)
  go_end0
  exact ⟨rfl, nx', an', wy', HR.out, HA.out, HQ.out⟩
theorem seen1_inside (h1 : Row w b1 197 [fnB 115 b3]) (h2 : Row w b2 37 [.int .u64 gave]) (hT : Calls Tryd.prog 115 #[.int .u64 gave, .int .u64 drew, .pointer (some ⟨b3, 0, none⟩)] w (TellTo w bp bs G)) :
    Calls Tryd.prog 133 #[.int .u64 drew, .pointer (some ⟨b1, 0, none⟩), .pointer (some ⟨b2, 0, none⟩)] w (TellTo w bp bs G) := by
  have c1 : w.cell? ⟨b1, 0, none⟩ = some (.func (.func 115) #[] #[.pointer (some ⟨b3, 0, none⟩)]) := h1.cell 0
  have c2 : w.cell? ⟨b2, 0, none⟩ = some (.int .u64 gave) := h2.cell 0
  have HT := Lib.hid hT
  clear h1 h2 hT
  go_enter Tryd.func133, Tryd.ntmps133
  go_wp2_with (go_at_call 115; (with_reducible refine HT.out.mono ?_); rintro e w1 ⟨rfl, nx', an', wy', hr, ha, hP⟩; have HR := Lib.hid hr; have HA := Lib.hid ha; have HQ := Lib.hid hP; clear hr ha hP)
  go_end0
  exact ⟨rfl, nx', an', wy', HR.out, HA.out, HQ.out⟩
end
end Go.Proofs.YteoekkhgpdhnhaaDoor
