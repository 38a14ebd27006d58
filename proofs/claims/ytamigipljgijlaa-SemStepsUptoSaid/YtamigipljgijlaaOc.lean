/- A SEMAPHORE's OPERATION THAT HAS JUST BEGUN: its first boxes are new, of whatever kind it is. -/
import Derived.Test.YtamigipljgijlaaNh
namespace Go.Proofs.Ytamigipljgijlaa
open Go Go.RowKit
set_option maxRecDepth 100000
set_option maxHeartbeats 1600000
theorem load_new {w : World} {bp bs : Nat} {nx : Value} {an wy c : Int} {f : Nat} {cs : Array Value} (hp : Row w bp 69 (pendM bs nx an wy)) :
    Calls Try.prog 45 #[.pointer (some ⟨bp, 0, none⟩), .int .i64 c, .func (.func f) #[] cs] w fun e w' => e = .returned (.tuple #[]) ∧ ∃ nx', Row w' bp 69 (pendM bs nx' an wy) ∧ (∀ S w2, (∀ q ∈ S, q < w.heap.size) → Part S w' w2 → LoadM w2 bp nx' c (.func (.func f) #[] cs)) ∧ Part [bp] w w' := by
  have hlt := hp.lt
  have HP := Lib.hid hp
  clear hp
  go_enter Try.func45, Try.ntmps45
  go_wp2_with (go_at_call 33; refine (act_new (HP.out.alloc _)).mono ?_; rintro e w1 ⟨rfl, nx', hr, ha, hP⟩; have HR := Lib.hid hr; have HA := Lib.hid ha; have HQ := Lib.hid hP; clear hr ha hP)
  go_end0
  refine ⟨rfl, nx', HR.out, fun S w2 hS hQ => ⟨_, HA.out S w2 (fun q hq => by have := hS q hq; simp; omega) hQ, Row.part ((Row.new w _ [_]).part HQ.out (by simp; omega)) hQ ?_⟩, ((Part.refl [bp] w).alloc _).then_ HQ.out⟩
  intro h; have := hS _ h; omega
theorem look_new {w : World} {bp bs b3 lo : Nat} {nx : Value} {an wy : Int} {f : FuncId} (hp : Row w bp 69 (pendM bs nx an wy)) (hb : Row w b3 35 [.pointer (some ⟨bp, 0, none⟩)]) (h3 : lo ≤ b3) (h4 : lo ≤ w.heap.size) :
    Calls Try.prog 36 #[.pointer (some ⟨bp, 0, none⟩), fnB f b3] w fun e w' => e = .returned (.tuple #[]) ∧ ∃ nx', Row w' bp 69 (pendM bs nx' an wy) ∧ (∀ S w2, (∀ q ∈ S, q < lo) → Part S w' w2 → LookM w2 bp nx' f) ∧ Part [bp] w w' := by
  have hlt := hp.lt
  have hbl := hb.lt
  have HP := Lib.hid hp
  have HB := Lib.hid hb
  have hne := hb.ne hp (by decide)
  have HNE := Lib.hid hne
  clear hp hb hne
  unfold fnB
  go_enter Try.func36, Try.ntmps36
  go_wp2_with (go_at_call 45; refine (load_new ((HP.out.alloc _).alloc _)).mono ?_; rintro e w1 ⟨rfl, nx', hr, ha, hP⟩; have HR := Lib.hid hr; have HA := Lib.hid ha; have HQ := Lib.hid hP; clear hr ha hP)
  go_end0
  refine ⟨rfl, nx', HR.out, fun S w2 hS hQ => ⟨_, _, b3, HA.out S w2 (fun q hq => by have := hS q hq; simp; omega) hQ, Row.part ?_ hQ ?_, Row.part ?_ hQ ?_, Row.part ?_ hQ ?_⟩, (((Part.refl [bp] w).alloc _).alloc _).then_ HQ.out⟩
  · exact ((Row.new w _ [_]).alloc _).part HQ.out (by simp; omega)
  · intro h; have := hS _ h; omega
  · exact (Row.at_ (w := w.alloc _) (by simp)).part HQ.out (by simp; omega)
  · intro h; have := hS _ h; omega
  · exact ((HB.out.alloc _).alloc _).part HQ.out (by simpa using HNE.out)
  · intro h; have := hS _ h; omega
theorem try_new {w : World} {bp bs : Nat} {nx : Value} {an wy : Int} (hp : Row w bp 69 (pendM bs nx an wy)) :
    Calls Try.prog 24 #[.pointer (some ⟨bp, 0, none⟩)] w fun e w' => e = .returned (.tuple #[]) ∧ ∃ nx', Row w' bp 69 (pendM bs nx' an wy) ∧ (∀ S w2, (∀ q ∈ S, q < w.heap.size) → Part S w' w2 → LookM w2 bp nx' 37) ∧ Part [bp] w w' := by
  have HP := Lib.hid hp
  clear hp
  go_enter Try.func24, Try.ntmps24
  go_wp2_with (go_at_call 36; refine (look_new (lo := w.heap.size) (HP.out.alloc _) (Row.new w 35 [.pointer (some ⟨bp, 0, none⟩)]) (Nat.le_refl _) (by simp)).mono ?_; rintro e w1 ⟨rfl, nx', hr, ha, hP⟩; have HR := Lib.hid hr; have HA := Lib.hid ha; have HQ := Lib.hid hP; clear hr ha hP)
  go_end0
  exact ⟨rfl, nx', HR.out, HA.out, ((Part.refl [bp] w).alloc _).then_ HQ.out⟩
theorem leave_new {w : World} {bp bs : Nat} {nx : Value} {an wy : Int} (hp : Row w bp 69 (pendM bs nx an wy)) :
    Calls Try.prog 25 #[.pointer (some ⟨bp, 0, none⟩)] w fun e w' => e = .returned (.tuple #[]) ∧ ∃ nx', Row w' bp 69 (pendM bs nx' an wy) ∧ (∀ S w2, (∀ q ∈ S, q < w.heap.size) → Part S w' w2 → LookM w2 bp nx' 41) ∧ Part [bp] w w' := by
  have HP := Lib.hid hp
  clear hp
  go_enter Try.func25, Try.ntmps25
  go_wp2_with (go_at_call 36; refine (look_new (lo := w.heap.size) (HP.out.alloc _) (Row.new w 35 [.pointer (some ⟨bp, 0, none⟩)]) (Nat.le_refl _) (by simp)).mono ?_; rintro e w1 ⟨rfl, nx', hr, ha, hP⟩; have HR := Lib.hid hr; have HA := Lib.hid ha; have HQ := Lib.hid hP; clear hr ha hP)
  go_end0
  exact ⟨rfl, nx', HR.out, HA.out, ((Part.refl [bp] w).alloc _).then_ HQ.out⟩
theorem inside_new {w : World} {bp bs : Nat} {nx : Value} {an wy : Int} (hp : Row w bp 69 (pendM bs nx an wy)) :
    Calls Try.prog 26 #[.pointer (some ⟨bp, 0, none⟩)] w fun e w' => e = .returned (.tuple #[]) ∧ ∃ nx', Row w' bp 69 (pendM bs nx' an wy) ∧ (∀ S w2, (∀ q ∈ S, q < w.heap.size) → Part S w' w2 → LookM w2 bp nx' 42) ∧ Part [bp] w w' := by
  have HP := Lib.hid hp
  clear hp
  go_enter Try.func26, Try.ntmps26
  go_wp2_with (go_at_call 36; refine (look_new (lo := w.heap.size) (HP.out.alloc _) (Row.new w 35 [.pointer (some ⟨bp, 0, none⟩)]) (Nat.le_refl _) (by simp)).mono ?_; rintro e w1 ⟨rfl, nx', hr, ha, hP⟩; have HR := Lib.hid hr; have HA := Lib.hid ha; have HQ := Lib.hid hP; clear hr ha hP)
  go_end0
  exact ⟨rfl, nx', HR.out, HA.out, ((Part.refl [bp] w).alloc _).then_ HQ.out⟩
/-- an operation that has just begun, whatever turns that is older -/
def NewS (lo bsem b : Nat) (k : Int) (w : World) : Prop := ∀ S w2, (∀ q ∈ S, q < lo) → Part S w w2 → ∃ nx, Row w2 b 69 (pendM bsem nx 0 0) ∧ NextS b (newS k) w2 nx 0 0
theorem snew_enter {w : World} {bs : Nat} : Calls Try.prog 8 #[.pointer (some ⟨bs, 0, none⟩), .int .u8 1] w fun e w' => ∃ bp, e = .returned (.tuple #[.pointer (some ⟨bp, 0, none⟩), .int .i64 0]) ∧ w.heap.size ≤ bp ∧ bp < w'.heap.size ∧ NewS w.heap.size bs bp 1 w' ∧ Below w.heap.size w w' := by
  go_enter Try.func8, Try.ntmps8
  go_wp2_with (go_at_call 23; (refine (enter_new (Row.new w 69 (pendM bs .nilFunc 0 0))).mono ?_); rintro e w1 ⟨rfl, nx', hr, ha, hP⟩; have HR := Lib.hid hr; have HA := Lib.hid ha; have HQ := Lib.hid hP; clear hr ha hP)
  go_ret2
  exact ⟨w.heap.size, rfl, Nat.le_refl _, HR.out.lt, fun S w2 hS hQ => ⟨nx', HR.out.part hQ (fun h => by have := hS _ h; omega), ⟨⟨rfl, rfl⟩, .inr (.inl ⟨rfl, rfl, HA.out S w2 (fun q hq => by have := hS q hq; simp; omega) hQ⟩)⟩⟩, part_new HQ.out⟩
theorem snew_try {w : World} {bs : Nat} : Calls Try.prog 8 #[.pointer (some ⟨bs, 0, none⟩), .int .u8 2] w fun e w' => ∃ bp, e = .returned (.tuple #[.pointer (some ⟨bp, 0, none⟩), .int .i64 0]) ∧ w.heap.size ≤ bp ∧ bp < w'.heap.size ∧ NewS w.heap.size bs bp 2 w' ∧ Below w.heap.size w w' := by
  go_enter Try.func8, Try.ntmps8
  go_wp2_with (go_at_call 24; (refine (try_new (Row.new w 69 (pendM bs .nilFunc 0 0))).mono ?_); rintro e w1 ⟨rfl, nx', hr, ha, hP⟩; have HR := Lib.hid hr; have HA := Lib.hid ha; have HQ := Lib.hid hP; clear hr ha hP)
  go_ret2
  exact ⟨w.heap.size, rfl, Nat.le_refl _, HR.out.lt, fun S w2 hS hQ => ⟨nx', HR.out.part hQ (fun h => by have := hS _ h; omega), ⟨⟨rfl, rfl⟩, .inr (.inr (.inr (.inl ⟨rfl, rfl, HA.out S w2 (fun q hq => by have := hS q hq; simp; omega) hQ⟩)))⟩⟩, part_new HQ.out⟩
theorem snew_leave {w : World} {bs : Nat} : Calls Try.prog 8 #[.pointer (some ⟨bs, 0, none⟩), .int .u8 3] w fun e w' => ∃ bp, e = .returned (.tuple #[.pointer (some ⟨bp, 0, none⟩), .int .i64 0]) ∧ w.heap.size ≤ bp ∧ bp < w'.heap.size ∧ NewS w.heap.size bs bp 3 w' ∧ Below w.heap.size w w' := by
  go_enter Try.func8, Try.ntmps8
  go_wp2_with (go_at_call 25; (refine (leave_new (Row.new w 69 (pendM bs .nilFunc 0 0))).mono ?_); rintro e w1 ⟨rfl, nx', hr, ha, hP⟩; have HR := Lib.hid hr; have HA := Lib.hid ha; have HQ := Lib.hid hP; clear hr ha hP)
  go_ret2
  exact ⟨w.heap.size, rfl, Nat.le_refl _, HR.out.lt, fun S w2 hS hQ => ⟨nx', HR.out.part hQ (fun h => by have := hS _ h; omega), ⟨⟨rfl, rfl⟩, .inr (.inr (.inr (.inr (.inr (.inr (.inl ⟨rfl, rfl, HA.out S w2 (fun q hq => by have := hS q hq; simp; omega) hQ⟩))))))⟩⟩, part_new HQ.out⟩
theorem snew_inside {w : World} {bs : Nat} : Calls Try.prog 8 #[.pointer (some ⟨bs, 0, none⟩), .int .u8 4] w fun e w' => ∃ bp, e = .returned (.tuple #[.pointer (some ⟨bp, 0, none⟩), .int .i64 0]) ∧ w.heap.size ≤ bp ∧ bp < w'.heap.size ∧ NewS w.heap.size bs bp 4 w' ∧ Below w.heap.size w w' := by
  go_enter Try.func8, Try.ntmps8
  go_wp2_with (go_at_call 26; (refine (inside_new (Row.new w 69 (pendM bs .nilFunc 0 0))).mono ?_); rintro e w1 ⟨rfl, nx', hr, ha, hP⟩; have HR := Lib.hid hr; have HA := Lib.hid ha; have HQ := Lib.hid hP; clear hr ha hP)
  go_ret2
  exact ⟨w.heap.size, rfl, Nat.le_refl _, HR.out.lt, fun S w2 hS hQ => ⟨nx', HR.out.part hQ (fun h => by have := hS _ h; omega), ⟨⟨rfl, rfl⟩, .inr (.inr (.inr (.inr (.inr (.inr (.inr (.inr (.inr (.inl ⟨rfl, rfl, HA.out S w2 (fun q hq => by have := hS q hq; simp; omega) hQ⟩)))))))))⟩⟩, part_new HQ.out⟩
theorem snew_op {w : World} {bs : Nat} {k : Int} (h : k = 1 ∨ k = 2 ∨ k = 3 ∨ k = 4) : Calls Try.prog 8 #[.pointer (some ⟨bs, 0, none⟩), .int .u8 k] w fun e w' => ∃ bp, e = .returned (.tuple #[.pointer (some ⟨bp, 0, none⟩), .int .i64 0]) ∧ w.heap.size ≤ bp ∧ bp < w'.heap.size ∧ NewS w.heap.size bs bp k w' ∧ Below w.heap.size w w' := by
  rcases h with rfl | rfl | rfl | rfl
  · exact snew_enter
  · exact snew_try
  · exact snew_leave
  · exact snew_inside
theorem NewS.pend {lo bsem b : Nat} {k : Int} {w : World} (h : NewS lo bsem b k w) : ∃ nx, Row w b 69 (pendM bsem nx 0 0) ∧ NextS b (newS k) w nx 0 0 := h [] w (by simp) (Part.refl _ _)
theorem NewS.part {lo bsem b : Nat} {k : Int} {w w1 : World} {T : List Nat} (h : NewS lo bsem b k w) (hP : Part T w w1) (hT : ∀ q ∈ T, q < lo) : NewS lo bsem b k w1 := fun S w2 hS hQ => by
  refine h (T ++ S) w2 (fun q hq => ?_) ?_
  · rcases List.mem_append.1 hq with hq | hq
    · exact hT q hq
    · exact hS q hq
  · exact (hP.mono (fun k _ hk => List.mem_append.2 (.inl hk))).trans (hQ) (fun k _ hk => List.mem_append.2 (.inr hk))
end Go.Proofs.Ytamigipljgijlaa
