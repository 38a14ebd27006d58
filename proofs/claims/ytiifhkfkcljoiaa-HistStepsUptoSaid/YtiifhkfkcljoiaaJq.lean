/- THE WALKS of package hist: the document's record as one contract. -/
import Derived.Test.YtiifhkfkcljoiaaJn
import Derived.Test.YtiifhkfkcljoiaaJt
import Derived.Deep.RegionLaw
import Derived.Deep.AppendLies
import Derived.Laws.MakeOwn
namespace Go.Proofs.Ytiifhkfkcljoiaa
open Go Go.RowKit
set_option maxRecDepth 100000
set_option maxHeartbeats 1600000
theorem gw_at {ws : List Int} {j : Nat} (h : j < ws.length) : ws[j]? = some (gw ws j) := gw_get h
/-- what a step of the document leaves -/
def DocStep (w : World) (A Ab : Option Addr) (m : Nat) (ws : List Int) (o : OpH) (e : Ending) (w' : World) : Prop := ∃ sw' Ab' cb', ((stepH m ws o).ld = true → sw' = (stepH m ws o).saw) ∧ Ext .u64 w' Ab' (stepH m ws o).bu ∧ (Ab' = Ab ∨ ∀ a, Ab' = some a → w.heap.size ≤ a.block ∧ a.block < w'.heap.size) ∧ DocTo w A (stepW m ws o) (undU (stepH m ws o) sw' Ab' cb') (didH m ws o) e w'
theorem doc_mk {w : World} {A Ab : Option Addr} {m cb : Nat} {ws ws' : List Int} {o o' : OpH} {did : Array Value} {sw' : Int} (h1 : stepH m ws o = o') (h2 : stepW m ws o = ws') (h3 : didH m ws o = did) (hl : o'.ld = true → sw' = o'.saw) (hB : Ext .u64 w Ab o'.bu) : ∀ e w', DocTo w A ws' (undU o' sw' Ab cb) did e w' → DocStep w A Ab m ws o e w' := by
  rintro e w' hD
  unfold DocStep
  rw [h1, h2, h3]
  obtain ⟨_, _, _, _, _, hb⟩ := id hD
  exact ⟨sw', Ab, cb, hl, hB.on hb, .inl rfl, hD⟩
section
variable {w : World} {A Ab : Option Addr} {n cb m : Nat} {ws : List Int} {l h d sw : Int}
theorem drec_at0 (o : OpH) (r : Sc.rightB l h d = true) (hA : Ext .u64 w A ws) (hB : Ext .u64 w Ab o.bu) (hlt : ∀ a, A = some a → a.block < w.heap.size) (hl : ws.length = m + 4) (hf : m ≤ 65532) (hm : m = Sc.cnt l h d) (hk : o.k = 1) (he : o.en = false) (hv : 0 ≤ o.v ∧ o.v ≤ h) (hi : o.i = ixH l d o.v) (hat : o.at_ = 0) (hld : o.ld = false) :
    Calls Try.prog 42 #[.agg #[.int .i64 l, .int .i64 h, .int .i64 d], .slice A ws.length n, .agg (undU o sw Ab cb)] w (DocStep w A Ab m ws o) := by
  obtain ⟨k, v, nn, i, at_, ld, saw, en, c, su, le, gr, bu⟩ := o
  dsimp only at hk he hv hi hat hB
  subst hk he hi hat
  have hix := ix_lt r hv.1 hv.2
  have hh := (Sc.right_of r).2.2.2.1
  have ev : v1 v = v + 1 := by unfold v1; rw [IntKind.wrap_u64]; omega
  dsimp only at hld
  subst hld
  exact (drec_bucket (Ab := Ab) (cb := cb) (bl := bu.length) (k := 1) (nn := nn) (uc := c) (us := su) (ul := le) (ug := gr) (n := n) (sw := sw) (en := false) r hA hlt hl hf hv (gw_at (by omega))).mono (doc_mk (o' := ⟨1, v, nn, ixH l d v, 1, false, saw, false, c, su, le, gr, bu⟩) (sw' := sw) (cb := cb) (by simp [stepH]) (by simp [stepW]) (by simp [didH]) (fun a => by cases a) hB)
theorem drec_at1 (o : OpH) (r : Sc.rightB l h d = true) (hA : Ext .u64 w A ws) (hB : Ext .u64 w Ab o.bu) (hlt : ∀ a, A = some a → a.block < w.heap.size) (hl : ws.length = m + 4) (hf : m ≤ 65532) (_hm : m = Sc.cnt l h d) (hk : o.k = 1) (he : o.en = false) (hv : 0 ≤ o.v ∧ o.v ≤ h) (hi : o.i = ixH l d o.v) (hat : o.at_ = 1) (hld : o.ld = false) :
    Calls Try.prog 42 #[.agg #[.int .i64 l, .int .i64 h, .int .i64 d], .slice A ws.length n, .agg (undU o sw Ab cb)] w (DocStep w A Ab m ws o) := by
  obtain ⟨k, v, nn, i, at_, ld, saw, en, c, su, le, gr, bu⟩ := o
  dsimp only at hk he hv hi hat hB
  subst hk he hi hat
  have hix := ix_lt r hv.1 hv.2
  have hh := (Sc.right_of r).2.2.2.1
  have ev : v1 v = v + 1 := by unfold v1; rw [IntKind.wrap_u64]; omega
  dsimp only at hld
  subst hld
  exact (drec_sum (Ab := Ab) (cb := cb) (bl := bu.length) (k := 1) (nn := nn) (uc := c) (us := su) (ul := le) (ug := gr) (n := n) (sw := sw) (en := false) r hA hlt hl hf hv (gw_at (by omega))).mono (doc_mk (o' := ⟨1, v, nn, ixH l d v, 2, false, saw, false, c, su, le, gr, bu⟩) (sw' := sw) (cb := cb) (by simp [stepH]) (by simp [stepW]) (by simp [didH]) (fun a => by cases a) hB)
theorem drec_at4 (o : OpH) (r : Sc.rightB l h d = true) (hA : Ext .u64 w A ws) (hB : Ext .u64 w Ab o.bu) (hlt : ∀ a, A = some a → a.block < w.heap.size) (hl : ws.length = m + 4) (hf : m ≤ 65532) (_hm : m = Sc.cnt l h d) (hk : o.k = 1) (he : o.en = false) (hv : 0 ≤ o.v ∧ o.v ≤ h) (hi : o.i = ixH l d o.v) (hat : o.at_ = 4) (hld : o.ld = false) :
    Calls Try.prog 42 #[.agg #[.int .i64 l, .int .i64 h, .int .i64 d], .slice A ws.length n, .agg (undU o sw Ab cb)] w (DocStep w A Ab m ws o) := by
  obtain ⟨k, v, nn, i, at_, ld, saw, en, c, su, le, gr, bu⟩ := o
  dsimp only at hk he hv hi hat hB
  subst hk he hi hat
  have hix := ix_lt r hv.1 hv.2
  have hh := (Sc.right_of r).2.2.2.1
  have ev : v1 v = v + 1 := by unfold v1; rw [IntKind.wrap_u64]; omega
  dsimp only at hld
  subst hld
  exact (drec_count (Ab := Ab) (cb := cb) (bl := bu.length) (k := 1) (nn := nn) (uc := c) (us := su) (ul := le) (ug := gr) (n := n) (sw := sw) r hA hlt hl hf hv (gw_at (by omega))).mono (doc_mk (o' := ⟨1, v, nn, ixH l d v, 4, false, saw, true, c, su, le, gr, bu⟩) (sw' := sw) (cb := cb) (by simp [stepH]) (by simp [stepW]) (by simp [didH]) (fun a => by cases a) hB)
theorem drec_at2hit (o : OpH) (r : Sc.rightB l h d = true) (hA : Ext .u64 w A ws) (hB : Ext .u64 w Ab o.bu) (hlt : ∀ a, A = some a → a.block < w.heap.size) (hl : ws.length = m + 4) (hf : m ≤ 65532) (hm : m = Sc.cnt l h d) (hk : o.k = 1) (he : o.en = false) (hv : 0 ≤ o.v ∧ o.v ≤ h) (hi : o.i = ixH l d o.v) (hat : o.at_ = 2) (hld : o.ld = true) (hs : sw = o.saw) (e : gw ws (m + 1) = o.saw) :
    Calls Try.prog 42 #[.agg #[.int .i64 l, .int .i64 h, .int .i64 d], .slice A ws.length n, .agg (undU o sw Ab cb)] w (DocStep w A Ab m ws o) := by
  obtain ⟨k, v, nn, i, at_, ld, saw, en, c, su, le, gr, bu⟩ := o
  dsimp only at hk he hv hi hat hB
  subst hk he hi hat
  have hix := ix_lt r hv.1 hv.2
  have hh := (Sc.right_of r).2.2.2.1
  have ev : v1 v = v + 1 := by unfold v1; rw [IntKind.wrap_u64]; omega
  dsimp only at hld hs e
  subst hld hs
  have c1 : ((m + 1 : Nat) : Int) = (m : Int) + 1 := by simp
  have hx := gw_at (ws := ws) (j := m + 1) (by omega)
  rw [e] at hx
  have t := fun (w1 : World) (a : Ext .u64 w1 A ws) (b : ∀ a, A = some a → a.block < w1.heap.size) => dend_hit (Ab := Ab) (cb := cb) (bl := bu.length) (k := 1) (nn := nn) (uc := c) (us := su) (ul := le) (ug := gr) (n := n) (en := false) (v := v) (at_ := 2) (x := v) (least := true) a b (by omega) hx (by omega)
  simp only [c1] at t
  exact (drec_low r hA hlt hl hf hv t).mono (doc_mk (o' := ⟨1, v, nn, ixH l d v, 3, false, sw, false, c, su, le, gr, bu⟩) (sw' := sw) (cb := cb) (by simp [stepH, e]) (by simp [stepW, e]; try rfl) (by simp [didH, e]) (fun a => by cases a) hB)
theorem drec_at2miss (o : OpH) (r : Sc.rightB l h d = true) (hA : Ext .u64 w A ws) (hB : Ext .u64 w Ab o.bu) (hlt : ∀ a, A = some a → a.block < w.heap.size) (hl : ws.length = m + 4) (hf : m ≤ 65532) (hm : m = Sc.cnt l h d) (hk : o.k = 1) (he : o.en = false) (hv : 0 ≤ o.v ∧ o.v ≤ h) (hi : o.i = ixH l d o.v) (hat : o.at_ = 2) (hld : o.ld = true) (hs : sw = o.saw) (e : gw ws (m + 1) ≠ o.saw) :
    Calls Try.prog 42 #[.agg #[.int .i64 l, .int .i64 h, .int .i64 d], .slice A ws.length n, .agg (undU o sw Ab cb)] w (DocStep w A Ab m ws o) := by
  obtain ⟨k, v, nn, i, at_, ld, saw, en, c, su, le, gr, bu⟩ := o
  dsimp only at hk he hv hi hat hB
  subst hk he hi hat
  have hix := ix_lt r hv.1 hv.2
  have hh := (Sc.right_of r).2.2.2.1
  have ev : v1 v = v + 1 := by unfold v1; rw [IntKind.wrap_u64]; omega
  dsimp only at hld hs e
  subst hld hs
  have c1 : ((m + 1 : Nat) : Int) = (m : Int) + 1 := by simp
  have hx := gw_at (ws := ws) (j := m + 1) (by omega)
  have t := fun (w1 : World) (a : Ext .u64 w1 A ws) (b : ∀ a, A = some a → a.block < w1.heap.size) => dend_miss (Ab := Ab) (cb := cb) (bl := bu.length) (k := 1) (nn := nn) (uc := c) (us := su) (ul := le) (ug := gr) (n := n) (en := false) (v := v) (at_ := 2) (x := v) (least := true) (sw := sw) a b (by omega) hx (by omega) e
  simp only [c1] at t
  exact (drec_low r hA hlt hl hf hv t).mono (doc_mk (o' := ⟨1, v, nn, ixH l d v, 2, false, sw, false, c, su, le, gr, bu⟩) (sw' := sw) (cb := cb) (by simp [stepH, e]) (by simp [stepW, e]) (by simp [didH, e]) (fun a => by cases a) hB)
theorem drec_at2yes (o : OpH) (r : Sc.rightB l h d = true) (hA : Ext .u64 w A ws) (hB : Ext .u64 w Ab o.bu) (hlt : ∀ a, A = some a → a.block < w.heap.size) (hl : ws.length = m + 4) (hf : m ≤ 65532) (hm : m = Sc.cnt l h d) (hk : o.k = 1) (he : o.en = false) (hv : 0 ≤ o.v ∧ o.v ≤ h) (hi : o.i = ixH l d o.v) (hat : o.at_ = 2) (hld : o.ld = false) (e : o.v < gw ws (m + 1)) :
    Calls Try.prog 42 #[.agg #[.int .i64 l, .int .i64 h, .int .i64 d], .slice A ws.length n, .agg (undU o sw Ab cb)] w (DocStep w A Ab m ws o) := by
  obtain ⟨k, v, nn, i, at_, ld, saw, en, c, su, le, gr, bu⟩ := o
  dsimp only at hk he hv hi hat hB
  subst hk he hi hat
  have hix := ix_lt r hv.1 hv.2
  have hh := (Sc.right_of r).2.2.2.1
  have ev : v1 v = v + 1 := by unfold v1; rw [IntKind.wrap_u64]; omega
  dsimp only at hld e
  subst hld
  have c1 : ((m + 1 : Nat) : Int) = (m : Int) + 1 := by simp
  have hx := gw_at (ws := ws) (j := m + 1) (by omega)
  have t := fun (w1 : World) (a : Ext .u64 w1 A ws) (b : ∀ a, A = some a → a.block < w1.heap.size) => dend_low_yes (Ab := Ab) (cb := cb) (bl := bu.length) (k := 1) (nn := nn) (uc := c) (us := su) (ul := le) (ug := gr) (n := n) (en := false) (v := v) (at_ := 2) (x := v) (sw := sw) a b (by omega) hx (by omega) e
  simp only [c1] at t
  exact (drec_low r hA hlt hl hf hv t).mono (doc_mk (o' := ⟨1, v, nn, ixH l d v, 2, true, (gw ws (m + 1)), false, c, su, le, gr, bu⟩) (sw' := gw ws (m + 1)) (cb := cb) (by simp [stepH, e]) (by simp [stepW]) (by simp [didH, saw_]) (fun _ => rfl) hB)
theorem drec_at2no (o : OpH) (r : Sc.rightB l h d = true) (hA : Ext .u64 w A ws) (hB : Ext .u64 w Ab o.bu) (hlt : ∀ a, A = some a → a.block < w.heap.size) (hl : ws.length = m + 4) (hf : m ≤ 65532) (hm : m = Sc.cnt l h d) (hk : o.k = 1) (he : o.en = false) (hv : 0 ≤ o.v ∧ o.v ≤ h) (hi : o.i = ixH l d o.v) (hat : o.at_ = 2) (hld : o.ld = false) (e : gw ws (m + 1) ≤ o.v) :
    Calls Try.prog 42 #[.agg #[.int .i64 l, .int .i64 h, .int .i64 d], .slice A ws.length n, .agg (undU o sw Ab cb)] w (DocStep w A Ab m ws o) := by
  obtain ⟨k, v, nn, i, at_, ld, saw, en, c, su, le, gr, bu⟩ := o
  dsimp only at hk he hv hi hat hB
  subst hk he hi hat
  have hix := ix_lt r hv.1 hv.2
  have hh := (Sc.right_of r).2.2.2.1
  have ev : v1 v = v + 1 := by unfold v1; rw [IntKind.wrap_u64]; omega
  dsimp only at hld e
  subst hld
  have e2 : ¬ v < gw ws (m + 1) := by omega
  have c1 : ((m + 1 : Nat) : Int) = (m : Int) + 1 := by simp
  have hx := gw_at (ws := ws) (j := m + 1) (by omega)
  have t := fun (w1 : World) (a : Ext .u64 w1 A ws) (b : ∀ a, A = some a → a.block < w1.heap.size) => dend_low_no (Ab := Ab) (cb := cb) (bl := bu.length) (k := 1) (nn := nn) (uc := c) (us := su) (ul := le) (ug := gr) (n := n) (en := false) (v := v) (at_ := 2) (x := v) (sw := sw) a b (by omega) hx (by omega) (by omega)
  simp only [c1] at t
  exact (drec_low r hA hlt hl hf hv t).mono (doc_mk (o' := ⟨1, v, nn, ixH l d v, 3, false, saw, false, c, su, le, gr, bu⟩) (sw' := gw ws (m + 1)) (cb := cb) (by simp [stepH, e2]) (by simp [stepW]) (by simp [didH, saw_]) (fun a => by cases a) hB)
theorem drec_at3hit (o : OpH) (r : Sc.rightB l h d = true) (hA : Ext .u64 w A ws) (hB : Ext .u64 w Ab o.bu) (hlt : ∀ a, A = some a → a.block < w.heap.size) (hl : ws.length = m + 4) (hf : m ≤ 65532) (hm : m = Sc.cnt l h d) (hk : o.k = 1) (he : o.en = false) (hv : 0 ≤ o.v ∧ o.v ≤ h) (hi : o.i = ixH l d o.v) (hat : o.at_ = 3) (hld : o.ld = true) (hs : sw = o.saw) (e : gw ws (m + 2) = o.saw) :
    Calls Try.prog 42 #[.agg #[.int .i64 l, .int .i64 h, .int .i64 d], .slice A ws.length n, .agg (undU o sw Ab cb)] w (DocStep w A Ab m ws o) := by
  obtain ⟨k, v, nn, i, at_, ld, saw, en, c, su, le, gr, bu⟩ := o
  dsimp only at hk he hv hi hat hB
  subst hk he hi hat
  have hix := ix_lt r hv.1 hv.2
  have hh := (Sc.right_of r).2.2.2.1
  have ev : v1 v = v + 1 := by unfold v1; rw [IntKind.wrap_u64]; omega
  dsimp only at hld hs e
  subst hld hs
  have c1 : ((m + 2 : Nat) : Int) = (m : Int) + 2 := by simp
  have hx := gw_at (ws := ws) (j := m + 2) (by omega)
  rw [e] at hx
  have t := fun (w1 : World) (a : Ext .u64 w1 A ws) (b : ∀ a, A = some a → a.block < w1.heap.size) => dend_hit (Ab := Ab) (cb := cb) (bl := bu.length) (k := 1) (nn := nn) (uc := c) (us := su) (ul := le) (ug := gr) (n := n) (en := false) (v := v) (at_ := 3) (x := (v + 1)) (least := false) a b (by omega) hx (by omega)
  simp only [c1] at t
  exact (drec_high r hA hlt hl hf hv t).mono (doc_mk (o' := ⟨1, v, nn, ixH l d v, 4, false, sw, false, c, su, le, gr, bu⟩) (sw' := sw) (cb := cb) (by simp [stepH, e]) (by simp [stepW, e, ev]; try rfl) (by simp [didH, e, ev]) (fun a => by cases a) hB)
theorem drec_at3miss (o : OpH) (r : Sc.rightB l h d = true) (hA : Ext .u64 w A ws) (hB : Ext .u64 w Ab o.bu) (hlt : ∀ a, A = some a → a.block < w.heap.size) (hl : ws.length = m + 4) (hf : m ≤ 65532) (hm : m = Sc.cnt l h d) (hk : o.k = 1) (he : o.en = false) (hv : 0 ≤ o.v ∧ o.v ≤ h) (hi : o.i = ixH l d o.v) (hat : o.at_ = 3) (hld : o.ld = true) (hs : sw = o.saw) (e : gw ws (m + 2) ≠ o.saw) :
    Calls Try.prog 42 #[.agg #[.int .i64 l, .int .i64 h, .int .i64 d], .slice A ws.length n, .agg (undU o sw Ab cb)] w (DocStep w A Ab m ws o) := by
  obtain ⟨k, v, nn, i, at_, ld, saw, en, c, su, le, gr, bu⟩ := o
  dsimp only at hk he hv hi hat hB
  subst hk he hi hat
  have hix := ix_lt r hv.1 hv.2
  have hh := (Sc.right_of r).2.2.2.1
  have ev : v1 v = v + 1 := by unfold v1; rw [IntKind.wrap_u64]; omega
  dsimp only at hld hs e
  subst hld hs
  have c1 : ((m + 2 : Nat) : Int) = (m : Int) + 2 := by simp
  have hx := gw_at (ws := ws) (j := m + 2) (by omega)
  have t := fun (w1 : World) (a : Ext .u64 w1 A ws) (b : ∀ a, A = some a → a.block < w1.heap.size) => dend_miss (Ab := Ab) (cb := cb) (bl := bu.length) (k := 1) (nn := nn) (uc := c) (us := su) (ul := le) (ug := gr) (n := n) (en := false) (v := v) (at_ := 3) (x := (v + 1)) (least := false) (sw := sw) a b (by omega) hx (by omega) e
  simp only [c1] at t
  exact (drec_high r hA hlt hl hf hv t).mono (doc_mk (o' := ⟨1, v, nn, ixH l d v, 3, false, sw, false, c, su, le, gr, bu⟩) (sw' := sw) (cb := cb) (by simp [stepH, e]) (by simp [stepW, e]) (by simp [didH, e]) (fun a => by cases a) hB)
theorem drec_at3yes (o : OpH) (r : Sc.rightB l h d = true) (hA : Ext .u64 w A ws) (hB : Ext .u64 w Ab o.bu) (hlt : ∀ a, A = some a → a.block < w.heap.size) (hl : ws.length = m + 4) (hf : m ≤ 65532) (hm : m = Sc.cnt l h d) (hk : o.k = 1) (he : o.en = false) (hv : 0 ≤ o.v ∧ o.v ≤ h) (hi : o.i = ixH l d o.v) (hat : o.at_ = 3) (hld : o.ld = false) (e : gw ws (m + 2) < o.v + 1) :
    Calls Try.prog 42 #[.agg #[.int .i64 l, .int .i64 h, .int .i64 d], .slice A ws.length n, .agg (undU o sw Ab cb)] w (DocStep w A Ab m ws o) := by
  obtain ⟨k, v, nn, i, at_, ld, saw, en, c, su, le, gr, bu⟩ := o
  dsimp only at hk he hv hi hat hB
  subst hk he hi hat
  have hix := ix_lt r hv.1 hv.2
  have hh := (Sc.right_of r).2.2.2.1
  have ev : v1 v = v + 1 := by unfold v1; rw [IntKind.wrap_u64]; omega
  dsimp only at hld e
  subst hld
  have c1 : ((m + 2 : Nat) : Int) = (m : Int) + 2 := by simp
  have hx := gw_at (ws := ws) (j := m + 2) (by omega)
  have t := fun (w1 : World) (a : Ext .u64 w1 A ws) (b : ∀ a, A = some a → a.block < w1.heap.size) => dend_high_yes (Ab := Ab) (cb := cb) (bl := bu.length) (k := 1) (nn := nn) (uc := c) (us := su) (ul := le) (ug := gr) (n := n) (en := false) (v := v) (at_ := 3) (x := (v + 1)) (sw := sw) a b (by omega) hx (by omega) e
  simp only [c1] at t
  exact (drec_high r hA hlt hl hf hv t).mono (doc_mk (o' := ⟨1, v, nn, ixH l d v, 3, true, (gw ws (m + 2)), false, c, su, le, gr, bu⟩) (sw' := gw ws (m + 2)) (cb := cb) (by simp [stepH, e, ev]) (by simp [stepW]) (by simp [didH, saw_]) (fun _ => rfl) hB)
theorem drec_at3no (o : OpH) (r : Sc.rightB l h d = true) (hA : Ext .u64 w A ws) (hB : Ext .u64 w Ab o.bu) (hlt : ∀ a, A = some a → a.block < w.heap.size) (hl : ws.length = m + 4) (hf : m ≤ 65532) (hm : m = Sc.cnt l h d) (hk : o.k = 1) (he : o.en = false) (hv : 0 ≤ o.v ∧ o.v ≤ h) (hi : o.i = ixH l d o.v) (hat : o.at_ = 3) (hld : o.ld = false) (e : o.v + 1 ≤ gw ws (m + 2)) :
    Calls Try.prog 42 #[.agg #[.int .i64 l, .int .i64 h, .int .i64 d], .slice A ws.length n, .agg (undU o sw Ab cb)] w (DocStep w A Ab m ws o) := by
  obtain ⟨k, v, nn, i, at_, ld, saw, en, c, su, le, gr, bu⟩ := o
  dsimp only at hk he hv hi hat hB
  subst hk he hi hat
  have hix := ix_lt r hv.1 hv.2
  have hh := (Sc.right_of r).2.2.2.1
  have ev : v1 v = v + 1 := by unfold v1; rw [IntKind.wrap_u64]; omega
  dsimp only at hld e
  subst hld
  have e2 : ¬ gw ws (m + 2) < v + 1 := by omega
  have c1 : ((m + 2 : Nat) : Int) = (m : Int) + 2 := by simp
  have hx := gw_at (ws := ws) (j := m + 2) (by omega)
  have t := fun (w1 : World) (a : Ext .u64 w1 A ws) (b : ∀ a, A = some a → a.block < w1.heap.size) => dend_high_no (Ab := Ab) (cb := cb) (bl := bu.length) (k := 1) (nn := nn) (uc := c) (us := su) (ul := le) (ug := gr) (n := n) (en := false) (v := v) (at_ := 3) (x := (v + 1)) (sw := sw) a b (by omega) hx (by omega) (by omega)
  simp only [c1] at t
  exact (drec_high r hA hlt hl hf hv t).mono (doc_mk (o' := ⟨1, v, nn, ixH l d v, 4, false, saw, false, c, su, le, gr, bu⟩) (sw' := gw ws (m + 2)) (cb := cb) (by simp [stepH, e2, ev]) (by simp [stepW]) (by simp [didH, saw_]) (fun a => by cases a) hB)
theorem drec_any (o : OpH) (r : Sc.rightB l h d = true) (hA : Ext .u64 w A ws) (hB : Ext .u64 w Ab o.bu) (hlt : ∀ a, A = some a → a.block < w.heap.size) (hl : ws.length = m + 4) (hf : m ≤ 65532) (hm : m = Sc.cnt l h d) (hk : o.k = 1) (he : o.en = false) (hv : 0 ≤ o.v ∧ o.v ≤ h) (hi : o.i = ixH l d o.v) (hat : o.at_ ≤ 4) (hld : o.ld = true → o.at_ = 2 ∨ o.at_ = 3) (hs : o.ld = true → sw = o.saw) :
    Calls Try.prog 42 #[.agg #[.int .i64 l, .int .i64 h, .int .i64 d], .slice A ws.length n, .agg (undU o sw Ab cb)] w (DocStep w A Ab m ws o) := by
  have h4 : o.at_ = 0 ∨ o.at_ = 1 ∨ o.at_ = 2 ∨ o.at_ = 3 ∨ o.at_ = 4 := by omega
  have hno : o.at_ ≠ 2 → o.at_ ≠ 3 → o.ld = false := fun a b => by
    cases e : o.ld with
    | false => rfl
    | true => rcases hld e with q | q <;> omega
  rcases h4 with q | q | q | q | q
  · exact drec_at0 o r hA hB hlt hl hf hm hk he hv hi q (hno (by omega) (by omega))
  · exact drec_at1 o r hA hB hlt hl hf hm hk he hv hi q (hno (by omega) (by omega))
  · cases e : o.ld with
    | true =>
      by_cases g : gw ws (m + 1) = o.saw
      · exact drec_at2hit o r hA hB hlt hl hf hm hk he hv hi q e (hs e) g
      · exact drec_at2miss o r hA hB hlt hl hf hm hk he hv hi q e (hs e) g
    | false =>
      by_cases g : o.v < gw ws (m + 1)
      · exact drec_at2yes o r hA hB hlt hl hf hm hk he hv hi q e g
      · exact drec_at2no o r hA hB hlt hl hf hm hk he hv hi q e (by omega)
  · cases e : o.ld with
    | true =>
      by_cases g : gw ws (m + 2) = o.saw
      · exact drec_at3hit o r hA hB hlt hl hf hm hk he hv hi q e (hs e) g
      · exact drec_at3miss o r hA hB hlt hl hf hm hk he hv hi q e (hs e) g
    | false =>
      by_cases g : gw ws (m + 2) < o.v + 1
      · exact drec_at3yes o r hA hB hlt hl hf hm hk he hv hi q e g
      · exact drec_at3no o r hA hB hlt hl hf hm hk he hv hi q e (by omega)
  · exact drec_at4 o r hA hB hlt hl hf hm hk he hv hi q (hno (by omega) (by omega))
end
end Go.Proofs.Ytiifhkfkcljoiaa
