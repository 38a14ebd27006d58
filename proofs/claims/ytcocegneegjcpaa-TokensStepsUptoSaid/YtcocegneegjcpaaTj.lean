/- AN OPERATION OF A BUCKET, IN PLAIN WORDS: what each of its steps does; and the walks in these words. -/
import Derived.Test.YtcocegneegjcpaaTf
import Derived.Test.YtcocegneegjcpaaTg
import Derived.Test.YtcocegneegjcpaaTh
import Derived.Test.YtcocegneegjcpaaTi
namespace Go.Proofs.Ytcocegneegjcpaa
open Go Go.RowKit

structure OpT where
  k : Int
  t : Int
  n : Int
  ph : Nat
  saw : Int
  put : Int
  ok : Bool
  wait : Int
  left : Int

/-- the operation ahead of its first action -/
def newO (k t n : Int) : OpT := ⟨k, t, n, 0, 0, 0, false, 0, 0⟩
def roomV (ev bu T t : Int) : Int := max 0 (t + bu * ev - max T t)
def stepO (ev bu T : Int) (o : OpT) : OpT :=
  if o.ph = 0 then
    if o.k = 1 then
      if max T o.t + o.n * ev ≤ o.t + bu * ev then { o with ph := 1, saw := T, put := max T o.t + o.n * ev }
      else { o with ph := 2, wait := if bu < o.n then -1 else max T o.t + o.n * ev - (o.t + bu * ev) }
    else { o with ph := 2, left := roomV ev bu T o.t / ev }
  else if o.ph = 1 then (if T = o.saw then { o with ph := 2, ok := true } else { o with ph := 0 })
  else o
def stepW (T : Int) (o : OpT) : Int := if o.ph = 1 ∧ T = o.saw then o.put else T
def didO (T : Int) (o : OpT) : Value :=
  if o.ph = 0 then .agg #[.int .u8 1, .int .i64 0, .int .u64 T, .int .u64 T, .bool true]
  else if o.ph = 1 then (if T = o.saw then .agg #[.int .u8 5, .int .i64 0, .int .u64 T, .int .u64 o.put, .bool true] else .agg #[.int .u8 5, .int .i64 0, .int .u64 T, .int .u64 T, .bool false])
  else .agg #[.int .u8 0, .int .i64 0, .int .u64 0, .int .u64 0, .bool false]

def RightT (k t n : Int) : Prop := (0 ≤ t ∧ t ≤ 2305843009213693952) ∧ ((k = 1 ∧ 1 ≤ n ∧ n ≤ 1048576) ∨ (k = 2 ∧ n = 0))
theorem rightT_iff {k t n : Int} : trightB k t n = true ↔ RightT k t n := by
  unfold trightB RightT momB
  simp
  constructor
  · rintro (⟨rfl, h1, h2, h3⟩ | ⟨rfl, h1, rfl⟩)
    · exact ⟨h1, .inl ⟨rfl, h2, h3⟩⟩
    · exact ⟨h1, .inr ⟨rfl, rfl⟩⟩
  · rintro ⟨h1, ⟨rfl, h2, h3⟩ | ⟨rfl, rfl⟩⟩
    · exact .inl ⟨rfl, h1, h2, h3⟩
    · exact .inr ⟨rfl, h1, rfl⟩

/-- an operation under way that is well -/
structure OkT (ev bu : Int) (o : OpT) : Prop where
  right : RightT o.k o.t o.n
  ph : o.ph ≤ 2
  fresh : o.ph < 2 → o.ok = false ∧ o.wait = 0 ∧ o.left = 0
  take : o.ph = 1 → o.k = 1
  fit : o.ph = 1 → o.put = max o.saw o.t + o.n * ev ∧ o.put ≤ o.t + bu * ev

section
variable {ev bu T : Int} {o : OpT}
theorem OkT.new {k t n : Int} (h : RightT k t n) : OkT ev bu (newO k t n) := ⟨h, by simp [newO], fun _ => ⟨rfl, rfl, rfl⟩, by simp [newO], by simp [newO]⟩
theorem OkT.step (h : OkT ev bu o) : OkT ev bu (stepO ev bu T o) := by
  obtain ⟨h1, h2, h3, h4, h5⟩ := h
  unfold stepO
  split
  · split
    · split
      · rename_i a b c
        exact ⟨h1, by simp, fun _ => h3 (by omega), fun _ => b, fun _ => ⟨rfl, c⟩⟩
      · exact ⟨h1, by simp, by simp, by simp, by simp⟩
    · exact ⟨h1, by simp, by simp, by simp, by simp⟩
  · split
    · split
      · exact ⟨h1, by simp, by simp, by simp, by simp⟩
      · rename_i a b c
        exact ⟨h1, by simp, fun _ => h3 (by omega), by simp, by simp⟩
    · exact ⟨h1, h2, h3, h4, h5⟩
theorem stepW_lo (h : OkT ev bu o) (hb : fitsB ev bu = true) (h0 : 0 ≤ T) (h1 : T ≤ 3458764513820540928) : 0 ≤ stepW T o ∧ stepW T o ≤ 3458764513820540928 := by
  obtain ⟨a, b, c, d⟩ := fits_bounds hb
  obtain ⟨⟨t0, t1⟩, hk⟩ := h.right
  obtain ⟨m0, m1⟩ := mul_bounds (n := bu) (ev := ev) (by omega) d a b
  unfold stepW
  split
  · rename_i e
    obtain ⟨f1, f2⟩ := h.fit e.1
    have hk1 := h.take e.1
    rcases hk with ⟨_, n0, n1⟩ | ⟨hk2, _⟩
    · obtain ⟨p0, p1⟩ := mul_bounds (n := o.n) (ev := ev) (by omega) n1 a b
      omega
    · omega
  · exact ⟨h0, h1⟩

/-- the cells of an operation -/
def nxT (o : OpT) : Value := if o.ph = 0 then (if o.k = 1 then fnV 76 else fnV 77) else if o.ph = 1 then fnV 95 else .nilFunc
def opTL (bt : Nat) (o : OpT) : List Value := pendT bt o.t o.n o.saw o.put (nxT o) o.ok o.wait o.left
end
/-- what a step leaves -/
def StepsT (w : World) (bt bk bw bp : Nat) (ev bu T : Int) (o : OpT) (v : Value) (e : Ending) (w' : World) : Prop := e = .returned v ∧ Buck w' bt bk bw ev bu T ∧ Row w' bp 140 (opTL bt o) ∧ Part [bw, bp] w w'
theorem SteppedT.steps {w w' : World} {bt bk bw bp : Nat} {ev bu T T' T'' : Int} {o : OpT} {l : List Value} {v v' : Value} {e : Ending} (h : Buck w bt bk bw ev bu T) (hp : Row w bp 140 l) {l' : List Value} (hs : SteppedT w bk bw bp T' l' v e w') (hl : l' = opTL bt o) (hv : v = v') (hT : T' = T'') (h0 : 0 ≤ T'') (h1 : T'' ≤ 3458764513820540928) :
    StepsT w bt bk bw bp ev bu T'' o v' e w' := by
  subst hl
  subst hv
  subst hT
  obtain ⟨he, hW, hR, hP⟩ := hs
  exact ⟨he, h.next hP hW (by simp; exact ⟨h.ne, h.head.ne hp (by decide)⟩) h0 h1, hR, hP⟩
theorem tstart_op {w : World} {bt : Nat} {k t n : Int} (h : RightT k t n) :
    Calls Try.prog 41 #[.pointer (some ⟨bt, 0, none⟩), .agg #[.int .u8 k, .int .i64 t, .int .i64 n]] w (BegunT w (opTL bt (newO k t n))) := by
  have hr := rightT_iff.2 h
  obtain ⟨_, ⟨rfl, _⟩ | ⟨rfl, _⟩⟩ := h
  · exact tstart_take hr
  · exact tstart_peek hr
theorem tdone_op {w : World} {bp bt : Nat} {o : OpT} (h : Row w bp 140 (opTL bt o)) (h2 : o.ph ≤ 2) :
    Calls Try.prog 45 #[.pointer (some ⟨bp, 0, none⟩)] w fun e w' => e = .returned (.bool (decide (o.ph = 2))) ∧ w = w' := by
  obtain ⟨k, t, n, ph, saw, put, ok, wait, left⟩ := o
  dsimp only at h2 ⊢
  match ph, h2 with
  | 0, _ =>
    unfold opTL nxT at h
    simp only [if_true] at h
    split at h
    · exact tdone_no h
    · exact tdone_no h
  | 1, _ => exact tdone_no h
  | 2, _ => exact tdone_yes h
theorem tanswer_op {w : World} {bp bt : Nat} {o : OpT} (h : Row w bp 140 (opTL bt o)) :
    Calls Try.prog 46 #[.pointer (some ⟨bp, 0, none⟩)] w fun e w' => e = .returned (.agg #[.bool o.ok, .int .i64 o.wait, .int .i64 o.left]) ∧ Below w.heap.size w w' := tanswer_any h
theorem tstep_op {w : World} {bt bk bw bp : Nat} {ev bu T : Int} {o : OpT} (h : Buck w bt bk bw ev bu T) (hp : Row w bp 140 (opTL bt o)) (ho : OkT ev bu o) :
    Calls Try.prog 43 #[.pointer (some ⟨bp, 0, none⟩)] w (StepsT w bt bk bw bp ev bu (stepW T o) (stepO ev bu T o) (.tuple #[didO T o, .bool (decide ((stepO ev bu T o).ph = 2))])) := by
  obtain ⟨a, b, c, d⟩ := fits_bounds h.fits
  obtain ⟨z0, z1⟩ := stepW_lo ho h.fits h.lo h.hi
  obtain ⟨⟨t0, t1⟩, hk⟩ := ho.right
  obtain ⟨k, t, n, ph, saw, put, ok, wait, left⟩ := o
  have h2 := ho.ph
  have hfresh := ho.fresh
  have hfit := ho.fit
  have htake := ho.take
  dsimp only at h2 t0 t1 hk hfresh hfit htake
  match ph, h2 with
  | 0, _ =>
    obtain ⟨rfl, rfl, rfl⟩ := hfresh (by omega)
    rcases hk with ⟨rfl, n0, n1⟩ | ⟨rfl, rfl⟩
    · have hp1 : Row w bp 140 (pendT bt t n saw put (fnV 76) false 0 0) := hp
      obtain ⟨p0, p1⟩ := mul_bounds (n := n) (ev := ev) (by omega) n1 a b
      by_cases hg : max T t + n * ev ≤ t + bu * ev
      · exact (tstep_load_more h hp1 fun w1 hb hr => fload_go hb hr t0 t1 rfl rfl p0 p1 rfl hg).mono fun e w' hs => hs.steps h hp (by simp [stepO, hg, opTL, nxT]) (by simp [stepO, hg, didO]) (by simp [stepW]) z0 z1
      · by_cases hn : bu < n
        · exact (tstep_load_last h hp1 fun w1 hb hr => fload_never hb hr t0 t1 rfl rfl p0 p1 rfl (by omega) hn).mono fun e w' hs => hs.steps h hp (by simp [stepO, hg, hn, opTL, nxT]) (by simp [stepO, hg, didO]) (by simp [stepW]) z0 z1
        · exact (tstep_load_last h hp1 fun w1 hb hr => fload_stop hb hr t0 t1 rfl rfl p0 p1 rfl (by omega) (by omega)).mono fun e w' hs => hs.steps h hp (by simp [stepO, hg, hn, opTL, nxT]) (by simp [stepO, hg, didO]) (by simp [stepW]) z0 z1
    · have hp1 : Row w bp 140 (pendT bt t 0 saw put (fnV 77) false 0 0) := hp
      exact (tstep_peek_last h hp1 fun w1 hb hr => fpeek_any hb hr t0 t1 rfl rfl rfl).mono fun e w' hs => hs.steps h hp (by simp [stepO, roomV, opTL, nxT]) (by simp [stepO, didO]) (by simp [stepW]) z0 z1
  | 1, _ =>
    obtain ⟨rfl, rfl, rfl⟩ := hfresh (by omega)
    obtain rfl := htake rfl
    obtain ⟨f1, f2⟩ := hfit rfl
    have hp1 : Row w bp 140 (pendT bt t n saw put (fnV 95) false 0 0) := hp
    by_cases e : T = saw
    · subst e
      have hu : U64 put := by
        have hz : stepW T ⟨1, t, n, 1, T, put, false, 0, 0⟩ = put := by simp [stepW]
        rw [hz] at z0 z1
        unfold U64
        omega
      exact (tstep_swap_last h hp1 fun w1 hb hr => fswap_hit hb hr hu).mono fun e w' hs => hs.steps h hp (by simp [stepO, opTL, nxT]) (by simp [stepO, didO]) (by simp [stepW]) z0 z1
    · exact (tstep_swap_more h hp1 fun w1 hb hr => fswap_miss hb hr e).mono fun e' w' hs => hs.steps h hp (by simp [stepO, e, opTL, nxT]) (by simp [stepO, e, didO]) (by simp [stepW, e]) z0 z1
  | 2, _ =>
    exact (tstep_over hp).mono fun e w' ⟨he, hb⟩ => ⟨he, h.on hb, hp.below hb hp.lt, Part.of_below hb (Nat.le_refl _) _⟩
end Go.Proofs.Ytcocegneegjcpaa
