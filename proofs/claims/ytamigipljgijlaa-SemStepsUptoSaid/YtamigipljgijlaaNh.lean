/- OPERATIONS OF A SEMAPHORE THAT ARE UNDER WAY, IN MEMORY; AN ENTER's FIRST BOXES ARE NEW. -/
import Derived.Test.YtamigipljgijlaaNg
import Derived.Test.YtamigipljgijlaaOw
namespace Go.Proofs.Ytamigipljgijlaa
open Go Go.RowKit
set_option maxRecDepth 100000
/-- an action's boxes are all new -/
theorem act_new {w : World} {bp bs : Nat} {nx : Value} {an wy k c o n : Int} {f : Nat} {cs : Array Value} (hp : Row w bp 69 (pendM bs nx an wy)) :
    Calls Try.prog 33 #[.pointer (some ⟨bp, 0, none⟩), .agg #[.int .u8 k, .int .i64 c, .int .u64 o, .int .u64 n], .func (.func f) #[] cs] w fun e w' => e = .returned (.tuple #[]) ∧ ∃ nx', Row w' bp 69 (pendM bs nx' an wy) ∧ (∀ S w2, (∀ q ∈ S, q < w.heap.size) → Part S w' w2 → ActM w2 bp nx' k c o n (.func (.func f) #[] cs)) ∧ Part [bp] w w' := by
  have hlt := hp.lt
  have hl1 : bp < w.heap.size + 1 := by omega
  have hl2 : bp < w.heap.size + 1 + 1 := by omega
  have hf := hp.free
  have hc : w.cell? ⟨bp, 1, none⟩ = some nx := hp.cell 1
  have HP := Lib.hid hp
  clear hp
  go_enter Try.func33, Try.ntmps33
  go_wp2
  go_end0
  refine ⟨rfl, _, ?_, fun S w2 hS hQ => ⟨w.heap.size, w.heap.size + 1, w.heap.size + 1 + 1, rfl, Row.part ?_ hQ ?_, Row.part ?_ hQ ?_, Row.part ?_ hQ ?_⟩, ?_⟩
  · exact (((HP.out.set 1 _).alloc _).alloc _).alloc _
  · exact ((Row.at_ (w := w.setCell _ _) (by simp)).alloc _).alloc _
  · intro h; have := hS _ h; omega
  · exact (Row.at_ (w := (w.setCell _ _).alloc _) (by simp)).alloc _
  · intro h; have := hS _ h; omega
  · exact Row.at_ (w := ((w.setCell _ _).alloc _).alloc _) (by simp)
  · intro h; have := hS _ h; omega
  · exact (((Part.set (Part.refl _ w) (by simp) _).alloc _).alloc _).alloc _
theorem enter_new {w : World} {bp bs : Nat} {nx : Value} {an wy : Int} (hp : Row w bp 69 (pendM bs nx an wy)) :
    Calls Try.prog 23 #[.pointer (some ⟨bp, 0, none⟩)] w fun e w' => e = .returned (.tuple #[]) ∧ ∃ nx', Row w' bp 69 (pendM bs nx' an wy) ∧ (∀ S w2, (∀ q ∈ S, q < w.heap.size) → Part S w' w2 → EnterM w2 bp nx') ∧ Part [bp] w w' := by
  have hlt := hp.lt
  have HP := Lib.hid hp
  clear hp
  go_enter Try.func23, Try.ntmps23
  go_wp2_with (go_at_call 33; refine (act_new (HP.out.alloc _)).mono ?_; rintro e w1 ⟨rfl, nx', hr, ha, hP⟩; have HR := Lib.hid hr; have HA := Lib.hid ha; have HQ := Lib.hid hP; clear hr ha hP)
  go_end0
  refine ⟨rfl, nx', HR.out, fun S w2 hS hQ => ⟨_, HA.out S w2 (fun q hq => by have := hS q hq; simp; omega) hQ, Row.part ((Row.new w _ [_]).part HQ.out (by simp; omega)) hQ ?_⟩, ((Part.refl [bp] w).alloc _).then_ HQ.out⟩
  intro h; have := hS _ h; omega
/-- a pending enter, whatever turns that is older -/
def NewEnter (lo : Nat) (bsem b : Nat) (w : World) : Prop := ∀ S w2, (∀ q ∈ S, q < lo) → Part S w w2 → ∃ nx, Row w2 b 69 (pendM bsem nx 0 0) ∧ NextS b (newS 1) w2 nx 0 0
theorem sstart_new {w : World} {bs : Nat} : Calls Try.prog 8 #[.pointer (some ⟨bs, 0, none⟩), .int .u8 1] w fun e w' => ∃ bp, e = .returned (.tuple #[.pointer (some ⟨bp, 0, none⟩), .int .i64 0]) ∧ w.heap.size ≤ bp ∧ bp < w'.heap.size ∧ NewEnter w.heap.size bs bp w' ∧ Below w.heap.size w w' := by
  go_enter Try.func8, Try.ntmps8
  go_wp2_with (go_at_call 23; (refine (enter_new (Row.new w 69 (pendM bs .nilFunc 0 0))).mono ?_); rintro e w1 ⟨rfl, nx', hr, ha, hP⟩; have HR := Lib.hid hr; have HA := Lib.hid ha; have HQ := Lib.hid hP; clear hr ha hP)
  go_ret2
  refine ⟨w.heap.size, rfl, Nat.le_refl _, HR.out.lt, fun S w2 hS hQ => ⟨nx', HR.out.part hQ (fun h => by have := hS _ h; omega), ⟨⟨rfl, rfl⟩, .inr (.inl ⟨rfl, rfl, HA.out S w2 (fun q hq => by have := hS q hq; simp; omega) hQ⟩)⟩⟩, part_new HQ.out⟩
/-- operations under way, each in a block of its own -/
structure PendsS (w : World) (lo bsem : Nat) (os : List OpS) (bs : List Nat) : Prop where
  len : bs.length = os.length
  row : ∀ (q : Nat) (o : OpS) (b : Nat), os[q]? = some o → bs[q]? = some b → ∃ nx an wy, Row w b 69 (pendM bsem nx an wy) ∧ NextS b o w nx an wy
  nodup : bs.Nodup
  lo : ∀ b, b ∈ bs → lo ≤ b
section
variable {w w' : World} {lo bsem bw q b : Nat} {os : List OpS} {bs S : List Nat} {o o' : OpS}
theorem PendsS.at_ (h : PendsS w lo bsem os bs) (hb : b ∈ bs) : ∃ l, Row w b 69 l := by
  obtain ⟨q, hq⟩ := List.getElem?_of_mem hb
  obtain ⟨nx, an, wy, hr, _⟩ := h.row q _ b (List.getElem?_eq_getElem (by rw [← h.len]; exact lt_of_get hq)) hq
  exact ⟨_, hr⟩
theorem PendsS.part (h : PendsS w lo bsem os bs) (hP : Part S w w') (hH : Hard S w) (hS : ∀ b, b ∈ bs → b ∉ S) : PendsS w' lo bsem os bs :=
  ⟨h.len, fun q o b ho hb => by
    obtain ⟨nx, an, wy, hr, hn⟩ := h.row q o b ho hb
    exact ⟨nx, an, wy, hr.part hP (hS b (List.mem_of_getElem? hb)), NextS.stays _ _ _ _ _ _ hn hP hH⟩, h.nodup, h.lo⟩
theorem hard_nil (w : World) : Hard [] w := by intro q hq; simp at hq
theorem PendsS.on (h : PendsS w lo bsem os bs) (hb : Below w.heap.size w w') : PendsS w' lo bsem os bs := h.part (Part.of_below hb (Nat.le_refl _) []) (hard_nil w) (by simp)
theorem PendsS.snoc (h : PendsS w lo bsem os bs) (hn : ∃ nx an wy, Row w b 69 (pendM bsem nx an wy) ∧ NextS b o w nx an wy) (hb : b ∉ bs) (hlo : lo ≤ b) : PendsS w lo bsem (os ++ [o]) (bs ++ [b]) := by
  refine ⟨by simp [h.len], fun q o' b' ho' hb' => ?_, ?_, fun x hx => ?_⟩
  · by_cases hq : q < os.length
    · rw [List.getElem?_append_left hq] at ho'
      rw [List.getElem?_append_left (by rw [h.len]; exact hq)] at hb'
      exact h.row q o' b' ho' hb'
    · have h1 := lt_of_get ho'
      simp at h1
      have e : q = os.length := by omega
      subst e
      rw [List.getElem?_append_right (Nat.le_refl _)] at ho'
      rw [List.getElem?_append_right (by rw [h.len]; exact Nat.le_refl _)] at hb'
      simp at ho'
      simp [h.len] at hb'
      subst ho' hb'
      exact hn
  · rw [List.nodup_append]
    refine ⟨h.nodup, by simp, fun x hx y hy => ?_⟩
    simp at hy
    subst hy
    rintro rfl
    exact hb hx
  · rcases List.mem_append.1 hx with hx | hx
    · exact h.lo x hx
    · simp at hx; subst hx; exact hlo
theorem PendsS.step {l : List Value} (h : PendsS w lo bsem os bs) (hb : bs[q]? = some b) (hn : ∃ nx an wy, Row w' b 69 (pendM bsem nx an wy) ∧ NextS b o' w' nx an wy) (hP : Part [b, bw] w w') (hbw : Row w bw 97 l) : PendsS w' lo bsem (os.set q o') bs := by
  have hH : Hard [b, bw] w := by
    intro z hz
    simp at hz
    rcases hz with rfl | rfl
    · obtain ⟨l', hl⟩ := h.at_ (List.mem_of_getElem? hb)
      exact ⟨_, _, hl, .inr (.inl rfl)⟩
    · exact ⟨_, _, hbw, .inr (.inr (.inl rfl))⟩
  refine ⟨by rw [List.length_set]; exact h.len, fun p o x hp hx => ?_, h.nodup, h.lo⟩
  by_cases e : p = q
  · subst e
    rw [hb] at hx
    cases hx
    rw [List.getElem?_set_self (by rw [← h.len]; exact lt_of_get hb)] at hp
    cases hp
    exact hn
  · rw [List.getElem?_set_ne (fun e' => e e'.symm)] at hp
    obtain ⟨nx, an, wy, hr, hnx⟩ := h.row p o x hp hx
    obtain ⟨l', hl⟩ := h.at_ (List.mem_of_getElem? hx)
    refine ⟨nx, an, wy, hr.part hP ?_, NextS.stays _ _ _ _ _ _ hnx hP hH⟩
    simp
    refine ⟨fun hxb => e ?_, hl.ne hbw (by decide)⟩
    subst hxb
    exact (List.getElem?_inj (lt_of_get hx) h.nodup).1 (hx.trans hb.symm)
theorem PendsS.get (h : PendsS w lo bsem os bs) (ho : os[q]? = some o) : ∃ b, bs[q]? = some b := ⟨bs[q]'(by rw [h.len]; exact lt_of_get ho), List.getElem?_eq_getElem _⟩
end
/-- an owned row, as a row -/
theorem own_row {w : World} {base n c g size : Nat} {e : TypeId} {xs : List Value} (h : w.ownsRow base e size (.slice (some ⟨g, 0, none⟩) n c) n xs) : ∃ l, Row w g e l ∧ n * size ≤ l.length := by
  rcases h.2 with ⟨hv, _⟩ | ⟨g', cap, cur, hv, _, hh, hc, _, hs, _⟩
  · cases hv
  · cases hv
    refine ⟨cur.toList, ?_, ?_⟩
    · unfold Row; simpa using hh
    · have := Nat.mul_le_mul_right size hc
      simpa [hs] using this
theorem own_base {w : World} {base base' n size : Nat} {e : TypeId} {v : Value} {xs : List Value} (h : w.ownsRow base e size v n xs) (hb : base' ≤ base) : w.ownsRow base' e size v n xs := by
  obtain ⟨h1, h2⟩ := h
  refine ⟨h1, ?_⟩
  rcases h2 with h2 | ⟨g, cap, cur, hv, hg, hh, r⟩
  · exact Or.inl h2
  · exact Or.inr ⟨g, cap, cur, hv, Nat.le_trans hb hg, hh, r⟩
theorem not_sing {b b' : Nat} (h : b ≠ b') : b ∉ [b'] := fun e => h (List.mem_singleton.1 e)
theorem own_block {w : World} {base n size : Nat} {e : TypeId} {v : Value} {xs : List Value} (h : w.ownsRow base e size v n xs) : ∀ q, v.ownBlock = some q → q < w.heap.size := by
  intro q hq
  rcases h.2 with ⟨rfl, _⟩ | ⟨g, _, cur, rfl, _, hh, _⟩
  · cases hq
  · cases hq; exact lt_of_block hh
/-- a semaphore and operations of its own -/
structure CrowdS (W : World) (bsem bk bw : Nat) (pl d g : Int) (os : List OpS) (bs : List Nat) (vp : Value) (w : World) : Prop where
  sem : SemM w bsem bk bw pl d g
  ps : w.ownsRow W.heap.size 35 1 vp bs.length (ptrs bs)
  pends : PendsS w W.heap.size bsem os bs
  lo : W.heap.size ≤ bw
  low : Below W.heap.size W w
section
variable {W w w1 : World} {bsem bk bw : Nat} {pl d g d' g' : Int} {os : List OpS} {bs : List Nat} {vp : Value}
theorem CrowdS.on (h : CrowdS W bsem bk bw pl d g os bs vp w) (hb : Below w.heap.size w w1) : CrowdS W bsem bk bw pl d g os bs vp w1 :=
  ⟨h.sem.on hb, own_part h.ps (Part.of_below hb (Nat.le_refl _) []) (by simp), h.pends.on hb, h.lo, h.low.trans (hb.mono h.low.size)⟩
/-- one of them has stepped -/
theorem CrowdS.step {q b : Nat} {o' : OpS} {did : Array Value} {la : Bool} {e : Ending} (h : CrowdS W bsem bk bw pl d g os bs vp w) (hb : bs[q]? = some b) (hs : StepTo w b bsem bk bw pl d' g' did la (NextS b o') e w1) : CrowdS W bsem bk bw pl d' g' (os.set q o') bs vp w1 := by
  obtain ⟨_, nx, an, wy, hr, hn, hsem, hP⟩ := hs
  obtain ⟨l, hl⟩ := h.pends.at_ (List.mem_of_getElem? hb)
  have hlo := h.pends.lo b (List.mem_of_getElem? hb)
  refine ⟨hsem, own_part h.ps hP (fun z hz => by simp; exact ⟨own_off h.ps hl (by decide) z hz, own_off h.ps h.sem.words.row (by decide) z hz⟩), h.pends.step hb ⟨nx, an, wy, hr, hn⟩ hP h.sem.words.row, h.lo, h.low.trans (hP.below h.low.size (fun k hk => by have := h.lo; simp at hk; omega))⟩
theorem own_step {q b n size : Nat} {o' : OpS} {did : Array Value} {la : Bool} {e : Ending} {t : TypeId} {v : Value} {xs : List Value} (h : CrowdS W bsem bk bw pl d g os bs vp w) (hb : bs[q]? = some b) (hs : StepTo w b bsem bk bw pl d' g' did la (NextS b o') e w1) (ho : w.ownsRow W.heap.size t size v n xs) (h1 : t ≠ 69) (h2 : t ≠ 97) : w1.ownsRow W.heap.size t size v n xs := by
  obtain ⟨_, nx, an, wy, hr, hn, hsem, hP⟩ := hs
  obtain ⟨l, hl⟩ := h.pends.at_ (List.mem_of_getElem? hb)
  exact own_part ho hP (fun z hz => by simp; exact ⟨own_off ho hl h1 z hz, own_off ho h.sem.words.row h2 z hz⟩)
/-- a plain call -/
theorem CrowdS.whole {v : Value} {e : Ending} (h : CrowdS W bsem bk bw pl d g os bs vp w) (hs : WholeS w bsem bk bw pl d' g' v e w1) : CrowdS W bsem bk bw pl d' g' os bs vp w1 := by
  obtain ⟨_, hsem, hP⟩ := hs
  refine ⟨hsem, own_part h.ps hP (fun z hz => not_sing (own_off h.ps h.sem.words.row (by decide) z hz)), h.pends.part hP (fun z hz => by rw [List.mem_singleton.1 hz]; exact ⟨_, _, h.sem.words.row, .inr (.inr (.inl rfl))⟩) (fun b hb => ?_), h.lo, h.low.trans (hP.below h.low.size (fun k hk => by rw [List.mem_singleton.1 hk]; exact h.lo))⟩
  obtain ⟨l, hl⟩ := h.pends.at_ hb
  exact not_sing (hl.ne h.sem.words.row (by decide))
/-- what is stored into a list of flags or numbers changes nothing -/
theorem CrowdS.off {gf n c size : Nat} {t : TypeId} {xs : List Value} (h : CrowdS W bsem bk bw pl d g os bs vp w) (ho : w.ownsRow W.heap.size t size (.slice (some ⟨gf, 0, none⟩) n c) n xs) (ht : t = 4 ∨ t = 3) (hP : Part [gf] w w1) : CrowdS W bsem bk bw pl d g os bs vp w1 := by
  obtain ⟨l, hl, _⟩ := own_row ho
  have hlo : W.heap.size ≤ gf := own_from ho gf rfl
  have n0 : bsem ≠ gf := by rcases ht with rfl | rfl <;> exact h.sem.head.ne hl (by decide)
  have n1 : bk ≠ gf := by rcases ht with rfl | rfl <;> exact h.sem.words.head.ne hl (by decide)
  have n2 : bw ≠ gf := by rcases ht with rfl | rfl <;> exact h.sem.words.row.ne hl (by decide)
  refine ⟨⟨h.sem.head.part hP (not_sing n0), h.sem.words.part hP (not_sing n1) (not_sing n2)⟩, own_part h.ps hP (fun z hz => not_sing ?_), h.pends.part hP (fun z hz => by rw [List.mem_singleton.1 hz]; rcases ht with rfl | rfl <;> exact ⟨_, _, hl, by simp⟩) (fun b hb => ?_), h.lo, h.low.trans (hP.below h.low.size (fun k hk => by rw [List.mem_singleton.1 hk]; exact hlo))⟩
  · rcases ht with rfl | rfl <;> exact own_off h.ps hl (by decide) z hz
  · obtain ⟨l', hl'⟩ := h.pends.at_ hb
    rcases ht with rfl | rfl <;> exact not_sing (hl'.ne hl (by decide))
end
end Go.Proofs.Ytamigipljgijlaa
