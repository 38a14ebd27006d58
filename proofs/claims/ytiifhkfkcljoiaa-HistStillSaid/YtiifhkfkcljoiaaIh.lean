/- THE WALKS of package hist: Done; Step, over what the action leaves. -/
import Derived.Test.YtiifhkfkcljoiaaIg
import Derived.Deep.RegionLaw
import Derived.Deep.AppendLies
import Derived.Laws.MakeOwn
namespace Go.Proofs.Ytiifhkfkcljoiaa
open Go Go.RowKit
set_option maxRecDepth 100000
theorem eql_nil_nil (w : World) : (binOp BinOp.eql 83 Value.nilFunc Value.nilFunc).run Try.prog w = .ok (.bool true) w := by kernel_rfl
theorem eql_fn_nil (f : FuncId) (cs : Array Value) (w : World) : (binOp BinOp.eql 83 (.func (.func f) #[] cs) Value.nilFunc).run Try.prog w = .ok (.bool false) w := by kernel_rfl
theorem done_no {w : World} {bp bh f : Nat} {cs : Array Value} {s : ShM} (hp : Row w bp 85 (pendH bh (.func (.func f) #[] cs) s)) :
    Calls Try.prog 18 #[.pointer (some ⟨bp, 0, none⟩)] w fun e w' => e = .returned (.bool false) ∧ w = w' := by
  have c1 : w.cell? ⟨bp, 1, none⟩ = some (.func (.func f) #[] cs) := hp.cell 1
  clear hp
  have q1 := eql_nil_nil
  have q2 := eql_fn_nil
  go_enter Try.func18, Try.ntmps18
  go_wp2
  go_ret
  exact ⟨rfl, rfl⟩
theorem done_yes {w : World} {bp bh : Nat} {s : ShM} (hp : Row w bp 85 (pendH bh .nilFunc s)) :
    Calls Try.prog 18 #[.pointer (some ⟨bp, 0, none⟩)] w fun e w' => e = .returned (.bool true) ∧ w = w' := by
  have c1 : w.cell? ⟨bp, 1, none⟩ = some .nilFunc := hp.cell 1
  clear hp
  have q1 := eql_nil_nil
  have q2 := eql_fn_nil
  go_enter Try.func18, Try.ntmps18
  go_wp2
  go_ret
  exact ⟨rfl, rfl⟩
theorem HistM.alloc {w : World} {bh bk bw m : Nat} {l h d : Int} {ws : List Int} (hs : HistM w bh bk bw l h d m ws) (o : Obj) : HistM (w.alloc o) bh bk bw l h d m ws := ⟨hs.head.alloc o, hs.words.alloc o, hs.len, hs.few⟩
theorem step_back {w w4 wf : World} {bp bh bk bw m : Nat} {l h d : Int} {ws : List Int} {l0 z : List Value} {T : List Nat} (hp : Row w4 bp 85 l0) (hs : HistM w4 bh bk bw l h d m ws) (hz : Row w4 w.heap.size 50 z) (hq : Part (bp :: bw :: T) w w4) (hE : Part [w.heap.size] w4 wf) :
    Row wf bp 85 l0 ∧ DidS [w.heap.size] w4 ∧ HistM wf bh bk bw l h d m ws ∧ Part (bp :: bw :: T) w wf := by
  refine ⟨hp.part hE (by simpa using hp.ne hz (by decide)), ?_, ⟨hs.head.part hE (by simpa using hs.head.ne hz (by decide)), hs.words.part hE (by simpa using hs.words.head.ne hz (by decide)) (by simpa using hs.words.row.ne hz (by decide)), hs.len, hs.few⟩, ?_⟩
  · intro q hm
    simp at hm
    subst hm
    exact ⟨_, hz⟩
  · refine Part.trans (S' := [w.heap.size]) hq hE (fun q hq hm => ?_)
    simp at hm
    omega
def StepTo (w : World) (bp bh bk bw : Nat) (l h d : Int) (m : Nat) (ws : List Int) (T : List Nat) (did : Array Value) (b : Bool) (G : World → Value → ShM → Prop) (e : Ending) (w' : World) : Prop :=
  e = .returned (.tuple #[.agg did, .bool b]) ∧ ∃ nx' s', Row w' bp 85 (pendH bh nx' s') ∧ G w' nx' s' ∧ HistM w' bh bk bw l h d m ws ∧ Part (bp :: bw :: T) w w'
theorem step_fn {w : World} {bp bh bk bw b1 b2 b3 m : Nat} {s : ShM} {l h d k c saw put : Int} {ws ws' : List Int} {ok : Bool} {T : List Nat} {G : World → Value → ShM → Prop} (hp : Row w bp 85 (pendH bh (.func (.func 92) #[] #[.pointer (some ⟨b1, 0, none⟩), .pointer (some ⟨b2, 0, none⟩), .pointer (some ⟨b3, 0, none⟩)]) s)) (hs : HistM w bh bk bw l h d m ws) (hT0 : Else T w bh bk bw)
    (hA : ∀ o, Calls Try.prog 92 #[.pointer (some ⟨b1, 0, none⟩), .pointer (some ⟨b2, 0, none⟩), .pointer (some ⟨b3, 0, none⟩)] (w.alloc o) (ActTo (w.alloc o) bp bh bk bw l h d m ws' T #[.int .u8 k, .int .i64 c, .int .u64 saw, .int .u64 put, .bool ok] G)) (hG : Stays G) (hF : ∀ w nx s, G w nx s → ∃ f cs, nx = .func (.func f) #[] cs) :
    Calls Try.prog 16 #[.pointer (some ⟨bp, 0, none⟩)] w (StepTo w bp bh bk bw l h d m ws' T #[.int .u8 k, .int .i64 c, .int .u64 saw, .int .u64 put, .bool ok] false G) := by
  have lp := hp.lt
  have lw := hs.words.row.lt
  have HN := Lib.hid (show w.heap.size ∉ bp :: bw :: T by
    simp only [List.mem_cons, not_or]
    exact ⟨by omega, by omega, fun hm => Nat.lt_irrefl _ (hT0 _ hm).1⟩)
  have HK := Lib.hid hA
  have HGS := Lib.hid hG
  have HD := Lib.hid (fun o => done_no (hp.alloc o))
  have HP0 := Lib.hid (fun o => (Part.refl (bp :: bw :: T) w).alloc o)
  have c1 : w.cell? ⟨bp, 1, none⟩ = some (.func (.func 92) #[] #[.pointer (some ⟨b1, 0, none⟩), .pointer (some ⟨b2, 0, none⟩), .pointer (some ⟨b3, 0, none⟩)]) := hp.cell 1
  have HF := Lib.hid hF
  clear hp hs hA hG hF hT0
  go_enter Try.func16, Try.ntmps16
  go_upto_region 4 with (first
    | (go_at_call 18; (with_reducible refine (HD.out _).mono ?_); rintro e w' ⟨rfl, rfl⟩)
    | (go_at_call 92; (with_reducible refine (HK.out _).mono ?_); rintro e w1 ⟨rfl, nx', s', hr, ha, hs', hP⟩; have HA := Lib.hid ha; obtain ⟨f', cs', rfl⟩ := HF.out _ _ _ ha; clear ha; have hz := (Row.new w 50 [.int .u8 0, .int .i64 0, .int .u64 0, .int .u64 0, .bool false]).part hP HN.out; obtain ⟨z0, z1, z2, z3, z4⟩ := hz.five; have zf := hz.free; have zl := hz.lt; have u1 : ¬ w1.heap.size = w.heap.size := (by omega); have u2 : ¬ w.heap.size = w1.heap.size := (by omega); have HY := Lib.hid hz; have HR := Lib.hid hr; have HZ := Lib.hid hs'; have HQ := Lib.hid hP; clear hz hr hs' hP))
  have r1 := Row.new w1 50 [.int .u8 k, .int .i64 c, .int .u64 saw, .int .u64 put, .bool ok]
  have r2 := HY.out.alloc (.cells #[.int .u8 k, .int .i64 c, .int .u64 saw, .int .u64 put, .bool ok] 50)
  have HR4 := Lib.hid (HR.out.alloc (.cells #[.int .u8 k, .int .i64 c, .int .u64 saw, .int .u64 put, .bool ok] 50))
  have HZ4 := Lib.hid (HZ.out.alloc (.cells #[.int .u8 k, .int .i64 c, .int .u64 saw, .int .u64 put, .bool ok] 50))
  have HA4 := Lib.hid (HGS.out _ _ [] _ _ HA.out ((Part.refl [] w1).alloc (.cells #[.int .u8 k, .int .i64 c, .int .u64 saw, .int .u64 put, .bool ok] 50)) (by intro q hq; simp at hq))
  have HQ4 := Lib.hid ((HP0.out _).then_ (HQ.out.then_ ((Part.refl _ w1).alloc (.cells #[.int .u8 k, .int .i64 c, .int .u64 saw, .int .u64 put, .bool ok] 50))))
  generalize hw4 : w1.alloc (.cells #[.int .u8 k, .int .i64 c, .int .u64 saw, .int .u64 put, .bool ok] 50) = w4 at *
  obtain ⟨q0, q1, q2, q3, q4⟩ := r1.five
  have ql := r1.lt
  clear z0 z1 z2 z3 z4 zf zl
  obtain ⟨z0, z1, z2, z3, z4⟩ := r2.five
  have zf := r2.free
  have zl := r2.lt
  have RZ := Lib.hid r2
  clear r1 r2 HY hw4
  clear HR HZ HQ HK HD HP0
  generalize w1.heap.size = gb at *
  rename_i hK
  go_region_held3 (fun w' => w'.cell? ⟨gb, 0, none⟩ = some (.int .u8 k) ∧ w'.cell? ⟨gb, 1, none⟩ = some (.int .i64 c) ∧ w'.cell? ⟨gb, 2, none⟩ = some (.int .u64 saw) ∧ w'.cell? ⟨gb, 3, none⟩ = some (.int .u64 put) ∧ w'.cell? ⟨gb, 4, none⟩ = some (.bool ok))
    (first | go_keep)
    (first
    | (go_at_call 18; (with_reducible refine (done_no HR4.out.drew).mono ?_); rintro e w' ⟨rfl, rfl⟩)
    | (go_at_call 18; (with_reducible refine (done_no HR4.out).mono ?_); rintro e w' ⟨rfl, rfl⟩)
    | (go_at_call 18; refine (done_no (Row.far (Row.far (Row.far (Row.far (Row.far HR4.out (by dsimp only; omega) _) (by dsimp only; omega) _) (by dsimp only; omega) _) (by dsimp only; omega) _) (by dsimp only; omega) _)).mono ?_; rintro e w' ⟨rfl, rfl⟩))
  all_goals
    refine hK _ _ ?_
    go_wp2
    refine bodyPost_ret (v := .tuple #[.agg #[.int .u8 k, .int .i64 c, .int .u64 saw, .int .u64 put, .bool ok], .bool false]) (by simp [results, Try.results16, go_sem, z0, z1, z2, z3, z4]) rfl ⟨rfl, ?_⟩
    obtain ⟨g1, g2, g3, g4⟩ := step_back HR4.out HZ4.out RZ.out HQ4.out (Part.drew (Part.set (Part.set (Part.set (Part.set (Part.set (Part.refl [w.heap.size] w4) (p := ⟨w.heap.size, 0, none⟩) (by simp) (.int .u8 k)) (p := ⟨w.heap.size, 1, none⟩) (by simp) (.int .i64 c)) (p := ⟨w.heap.size, 2, none⟩) (by simp) (.int .u64 saw)) (p := ⟨w.heap.size, 3, none⟩) (by simp) (.int .u64 put)) (p := ⟨w.heap.size, 4, none⟩) (by simp) (.bool ok)))
    exact ⟨_, _, g1, HGS.out _ _ [w.heap.size] _ _ HA4.out (Part.drew (Part.set (Part.set (Part.set (Part.set (Part.set (Part.refl [w.heap.size] w4) (p := ⟨w.heap.size, 0, none⟩) (by simp) (.int .u8 k)) (p := ⟨w.heap.size, 1, none⟩) (by simp) (.int .i64 c)) (p := ⟨w.heap.size, 2, none⟩) (by simp) (.int .u64 saw)) (p := ⟨w.heap.size, 3, none⟩) (by simp) (.int .u64 put)) (p := ⟨w.heap.size, 4, none⟩) (by simp) (.bool ok))) g2, g3, g4⟩
theorem step_nil {w : World} {bp bh bk bw b1 b2 b3 m : Nat} {s : ShM} {l h d k c saw put : Int} {ws ws' : List Int} {ok : Bool} {T : List Nat} {G : World → Value → ShM → Prop} (hp : Row w bp 85 (pendH bh (.func (.func 92) #[] #[.pointer (some ⟨b1, 0, none⟩), .pointer (some ⟨b2, 0, none⟩), .pointer (some ⟨b3, 0, none⟩)]) s)) (hs : HistM w bh bk bw l h d m ws) (hT0 : Else T w bh bk bw)
    (hA : ∀ o, Calls Try.prog 92 #[.pointer (some ⟨b1, 0, none⟩), .pointer (some ⟨b2, 0, none⟩), .pointer (some ⟨b3, 0, none⟩)] (w.alloc o) (ActTo (w.alloc o) bp bh bk bw l h d m ws' T #[.int .u8 k, .int .i64 c, .int .u64 saw, .int .u64 put, .bool ok] G)) (hG : Stays G) (hF : ∀ w nx s, G w nx s → nx = .nilFunc) :
    Calls Try.prog 16 #[.pointer (some ⟨bp, 0, none⟩)] w (StepTo w bp bh bk bw l h d m ws' T #[.int .u8 k, .int .i64 c, .int .u64 saw, .int .u64 put, .bool ok] true G) := by
  have lp := hp.lt
  have lw := hs.words.row.lt
  have HN := Lib.hid (show w.heap.size ∉ bp :: bw :: T by
    simp only [List.mem_cons, not_or]
    exact ⟨by omega, by omega, fun hm => Nat.lt_irrefl _ (hT0 _ hm).1⟩)
  have HK := Lib.hid hA
  have HGS := Lib.hid hG
  have HD := Lib.hid (fun o => done_no (hp.alloc o))
  have HP0 := Lib.hid (fun o => (Part.refl (bp :: bw :: T) w).alloc o)
  have c1 : w.cell? ⟨bp, 1, none⟩ = some (.func (.func 92) #[] #[.pointer (some ⟨b1, 0, none⟩), .pointer (some ⟨b2, 0, none⟩), .pointer (some ⟨b3, 0, none⟩)]) := hp.cell 1
  have HF := Lib.hid hF
  clear hp hs hA hG hF hT0
  go_enter Try.func16, Try.ntmps16
  go_upto_region 4 with (first
    | (go_at_call 18; (with_reducible refine (HD.out _).mono ?_); rintro e w' ⟨rfl, rfl⟩)
    | (go_at_call 92; (with_reducible refine (HK.out _).mono ?_); rintro e w1 ⟨rfl, nx', s', hr, ha, hs', hP⟩; have HA := Lib.hid ha; obtain rfl := HF.out _ _ _ ha; clear ha; have hz := (Row.new w 50 [.int .u8 0, .int .i64 0, .int .u64 0, .int .u64 0, .bool false]).part hP HN.out; obtain ⟨z0, z1, z2, z3, z4⟩ := hz.five; have zf := hz.free; have zl := hz.lt; have u1 : ¬ w1.heap.size = w.heap.size := (by omega); have u2 : ¬ w.heap.size = w1.heap.size := (by omega); have HY := Lib.hid hz; have HR := Lib.hid hr; have HZ := Lib.hid hs'; have HQ := Lib.hid hP; clear hz hr hs' hP))
  have r1 := Row.new w1 50 [.int .u8 k, .int .i64 c, .int .u64 saw, .int .u64 put, .bool ok]
  have r2 := HY.out.alloc (.cells #[.int .u8 k, .int .i64 c, .int .u64 saw, .int .u64 put, .bool ok] 50)
  have HR4 := Lib.hid (HR.out.alloc (.cells #[.int .u8 k, .int .i64 c, .int .u64 saw, .int .u64 put, .bool ok] 50))
  have HZ4 := Lib.hid (HZ.out.alloc (.cells #[.int .u8 k, .int .i64 c, .int .u64 saw, .int .u64 put, .bool ok] 50))
  have HA4 := Lib.hid (HGS.out _ _ [] _ _ HA.out ((Part.refl [] w1).alloc (.cells #[.int .u8 k, .int .i64 c, .int .u64 saw, .int .u64 put, .bool ok] 50)) (by intro q hq; simp at hq))
  have HQ4 := Lib.hid ((HP0.out _).then_ (HQ.out.then_ ((Part.refl _ w1).alloc (.cells #[.int .u8 k, .int .i64 c, .int .u64 saw, .int .u64 put, .bool ok] 50))))
  generalize hw4 : w1.alloc (.cells #[.int .u8 k, .int .i64 c, .int .u64 saw, .int .u64 put, .bool ok] 50) = w4 at *
  obtain ⟨q0, q1, q2, q3, q4⟩ := r1.five
  have ql := r1.lt
  clear z0 z1 z2 z3 z4 zf zl
  obtain ⟨z0, z1, z2, z3, z4⟩ := r2.five
  have zf := r2.free
  have zl := r2.lt
  have RZ := Lib.hid r2
  clear r1 r2 HY hw4
  clear HR HZ HQ HK HD HP0
  generalize w1.heap.size = gb at *
  rename_i hK
  go_region_held3 (fun w' => w'.cell? ⟨gb, 0, none⟩ = some (.int .u8 k) ∧ w'.cell? ⟨gb, 1, none⟩ = some (.int .i64 c) ∧ w'.cell? ⟨gb, 2, none⟩ = some (.int .u64 saw) ∧ w'.cell? ⟨gb, 3, none⟩ = some (.int .u64 put) ∧ w'.cell? ⟨gb, 4, none⟩ = some (.bool ok))
    (first | go_keep)
    (first
    | (go_at_call 18; (with_reducible refine (done_yes HR4.out.drew).mono ?_); rintro e w' ⟨rfl, rfl⟩)
    | (go_at_call 18; (with_reducible refine (done_yes HR4.out).mono ?_); rintro e w' ⟨rfl, rfl⟩)
    | (go_at_call 18; refine (done_yes (Row.far (Row.far (Row.far (Row.far (Row.far HR4.out (by dsimp only; omega) _) (by dsimp only; omega) _) (by dsimp only; omega) _) (by dsimp only; omega) _) (by dsimp only; omega) _)).mono ?_; rintro e w' ⟨rfl, rfl⟩))
  all_goals
    refine hK _ _ ?_
    go_wp2
    refine bodyPost_ret (v := .tuple #[.agg #[.int .u8 k, .int .i64 c, .int .u64 saw, .int .u64 put, .bool ok], .bool true]) (by simp [results, Try.results16, go_sem, z0, z1, z2, z3, z4]) rfl ⟨rfl, ?_⟩
    obtain ⟨g1, g2, g3, g4⟩ := step_back HR4.out HZ4.out RZ.out HQ4.out (Part.drew (Part.set (Part.set (Part.set (Part.set (Part.set (Part.refl [w.heap.size] w4) (p := ⟨w.heap.size, 0, none⟩) (by simp) (.int .u8 k)) (p := ⟨w.heap.size, 1, none⟩) (by simp) (.int .i64 c)) (p := ⟨w.heap.size, 2, none⟩) (by simp) (.int .u64 saw)) (p := ⟨w.heap.size, 3, none⟩) (by simp) (.int .u64 put)) (p := ⟨w.heap.size, 4, none⟩) (by simp) (.bool ok)))
    exact ⟨_, _, g1, HGS.out _ _ [w.heap.size] _ _ HA4.out (Part.drew (Part.set (Part.set (Part.set (Part.set (Part.set (Part.refl [w.heap.size] w4) (p := ⟨w.heap.size, 0, none⟩) (by simp) (.int .u8 k)) (p := ⟨w.heap.size, 1, none⟩) (by simp) (.int .i64 c)) (p := ⟨w.heap.size, 2, none⟩) (by simp) (.int .u64 saw)) (p := ⟨w.heap.size, 3, none⟩) (by simp) (.int .u64 put)) (p := ⟨w.heap.size, 4, none⟩) (by simp) (.bool ok))) g2, g3, g4⟩
end Go.Proofs.Ytiifhkfkcljoiaa
