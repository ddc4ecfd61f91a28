/- The parts of a path, one behind the other: an iterator over an iterator. -/
import Derived.Test.YtganpdplikbppaaDoorNm4
set_option linter.unusedSimpArgs false
set_option linter.unusedVariables false
namespace Go.Proofs.YtganpdplikbppaaDoor
open Go.RowKit Go.Shelf Go.Lib
attribute [local go_sem] Oper.semAt_some

/-- Those that are not empty. -/
def fl (xs : List ByteArray) : List ByteArray := xs.filter fun x => !(toL x).isEmpty
theorem fl_map (xs : List ByteArray) : (fl xs).map toL = full (xs.map toL) := by
  unfold fl full
  rw [List.filter_map]
  rfl
theorem fl_snoc_no {xs : List ByteArray} {x : ByteArray} (h : x.toList.isEmpty = true) : fl (xs ++ [x]) = fl xs := by
  have : toL x = [] := (empty_iff x).1 h
  unfold fl
  rw [List.filter_append, show List.filter (fun x => !(toL x).isEmpty) [x] = [] by rw [List.filter_cons, this]; rfl, List.append_nil]
theorem fl_snoc {xs : List ByteArray} {x : ByteArray} (h : x.toList.isEmpty = false) : fl (xs ++ [x]) = fl xs ++ [x] := by
  have : ¬ toL x = [] := not_empty h
  unfold fl
  have h2 : (toL x).isEmpty = false := by simpa using this
  rw [List.filter_append, show List.filter (fun x => !(toL x).isEmpty) [x] = [x] by rw [List.filter_cons, h2]; rfl]
theorem fl_pts {xs : List ByteArray} {l : List UInt8} (h : xs.map toL = pcs l) : (fl xs).map toL = ptsL l := by rw [fl_map, h]; rfl
theorem fl_pre {xs : List ByteArray} {l : List UInt8} (h : xs.map toL <+: pcs l) : (fl xs).map toL <+: ptsL l := by
  rw [fl_map]
  obtain ⟨t, ht⟩ := h
  exact ⟨full t, by rw [← full_append, ht]; rfl⟩
theorem fl_length (xs : List ByteArray) : (fl xs).length ≤ xs.length := List.length_filter_le _ _
theorem parts_calls (s : ByteArray) (w : World) :
    Calls Tryd.prog 25 #[.string s] w fun e w' =>
      e = .returned (.func (.func 35) #[] #[.pointer (some ⟨w.heap.size, 0, none⟩)]) ∧ w' = w.alloc (.cells #[.string s] 9) := by
  go_enter Tryd.func25, Tryd.ntmps25
  go_wp2
  go_ret
  exact ⟨rfl, rfl⟩
theorem round_any {n m l lo : Nat} {P : Program} {f : FuncId} {tmps : Array Value} {assign body : Code} {w : World} {R : Ending → World → Prop} (h : RoundIn Fence.wide n P lo f tmps assign body w R) :
    RoundIn (Fence.wide.inRound l) m P lo f tmps assign body w R := ⟨h.1, fun c cs _ => h.2 c cs (room_wide _)⟩
set_option maxRecDepth 100000 in
set_option maxHeartbeats 4000000 in
theorem parts1_gives (n : Nat) (hn : 5 ≤ n) (Bp : Nat) (path : ByteArray) (hlen : path.size ≤ 1099511627776) (W : World) (b1 : Boxed W Bp 9 (.string path)) :
    Gives Fence.wide n Tryd.prog 35 #[.pointer (some ⟨Bp, 0, none⟩)] (fun x : ByteArray => #[Value.string x])
      (fun k => W.heap.size ≤ k ∧ k < W.heap.size + 6) (fun k => W.heap.size ≤ k ∧ k < W.heap.size + 6) (fun xs => xs.map toL = ptsL (toL path)) (fun pre => pre.map toL <+: ptsL (toL path)) (pcs (toL path)).length W := by
  intro lo J Jx bJ bJx hY h0
  refine callsIn_of_wp_marks Tryd.func35 rfl trivial ?_ rfl
  simp only [Tryd.ntmps35, List.size_toArray, List.length_cons, List.length_nil, Nat.reduceAdd, Nat.reduceSub, Array.replicate_succ, Array.replicate_zero, List.push_toArray, List.append_toArray, List.nil_append, List.cons_append]
  have c1 := b1.cell
  have l1 := b1.lt
  have hn1 : 1 ≤ n := by omega
  gi_wp2_with (refine ⟨trivial, ?_⟩; gi_at_call 36; refine (callsIn_wide.2 (splitSeq_calls path _)).mono ?_; rintro e w' ⟨rfl, rfl⟩)
  have B0 := (((Boxed.new W 25 (.func (.yield lo) #[] #[])).alloc (.cells #[.string path] 9)).alloc (.cells #[.string ⟨#[47]⟩] 9)).alloc (.cells #[.int .i64 0] 3)
  have B1 := ((Boxed.new (W.alloc (.cells #[.func (.yield lo) #[] #[]] 25)) 9 (.string path)).alloc (.cells #[.string ⟨#[47]⟩] 9)).alloc (.cells #[.int .i64 0] 3)
  have B2 := (Boxed.new ((W.alloc (.cells #[.func (.yield lo) #[] #[]] 25)).alloc (.cells #[.string path] 9)) 9 (.string ⟨#[47]⟩)).alloc (.cells #[.int .i64 0] 3)
  have B3 := Boxed.new (((W.alloc (.cells #[.func (.yield lo) #[] #[]] 25)).alloc (.cells #[.string path] 9)).alloc (.cells #[.string ⟨#[47]⟩] 9)) 3 (.int .i64 0)
  have OB : Only (fun _ => False) W ((((W.alloc (.cells #[.func (.yield lo) #[] #[]] 25)).alloc (.cells #[.string path] 9)).alloc (.cells #[.string ⟨#[47]⟩] 9)).alloc (.cells #[.int .i64 0] 3)) := ((((Only.refl _ W).alloc _).alloc _).alloc _).alloc _
  have SZ : ((((W.alloc (.cells #[.func (.yield lo) #[] #[]] 25)).alloc (.cells #[.string path] 9)).alloc (.cells #[.string ⟨#[47]⟩] 9)).alloc (.cells #[.int .i64 0] 3)).heap.size = W.heap.size + 4 := by simp
  simp only [World.size_alloc] at B1 B2 B3
  generalize ((((W.alloc (.cells #[.func (.yield lo) #[] #[]] 25)).alloc (.cells #[.string path] 9)).alloc (.cells #[.string ⟨#[47]⟩] 9)).alloc (.cells #[.int .i64 0] 3)) = V at *
  have h1 : J [] V := bJ _ _ _ h0 (OB.mono fun k h => h.elim)
  have inner : ∀ o, Gives Fence.wide (n - 1) Tryd.prog 56 #[.pointer (some ⟨W.heap.size + 1 + 1, 0, none⟩), .pointer (some ⟨W.heap.size + 1, 0, none⟩), .pointer (some ⟨W.heap.size + 1 + 1 + 1, 0, none⟩)] (fun x : ByteArray => #[Value.string x])
      (fun k => k = W.heap.size + 1) (fun k => k = W.heap.size + 1 ∨ k = W.heap.size + 1 + 1 ∨ k = W.heap.size + 1 + 1 + 1) (fun xs => xs.map toL = pcs (toL path)) (fun pre => pre.map toL <+: pcs (toL path)) (pcs (toL path)).length ((V.alloc (.deferred (some []))).alloc (.loop o)) := fun o =>
    split1_gives (n - 1) (by omega) _ _ _ path hlen _ (by omega) (by omega) ((B1.alloc _).alloc _) ((B2.alloc _).alloc _) ((B3.alloc _).alloc _)
  have HB0 := Lib.hid B0
  clear B1 B2 B3 OB b1 c1
  refine loop_law rfl hn1 (gf := 56) (lb := #[.pointer (some ⟨W.heap.size + 1 + 1, 0, none⟩), .pointer (some ⟨W.heap.size + 1, 0, none⟩), .pointer (some ⟨W.heap.size + 1 + 1 + 1, 0, none⟩)]) rfl trivial (enters_of Tryd.func56 (by kernel_rfl) rfl)
    inner (fun _ => rfl) (fun k h => by rw [SZ]; omega) (by rw [SZ]; omega)
    (fun pre A => J (fl pre) A ∧ Boxed A W.heap.size 25 (.func (.yield lo) #[] #[]))
    (fun c pre A => c = .ret ∧ Jx (fl pre) A)
    (fun pre A B hs ho => ⟨bJ _ _ _ hs.1 (ho.mono fun k h => by rw [SZ] at h; omega), Boxed.only hs.2 ho (by rw [SZ]; omega)⟩)
    (fun c pre A B hs ho => ⟨hs.1, bJx _ _ _ hs.2 (ho.mono fun k h => by rw [SZ] at h; omega)⟩)
    ⟨h1, HB0.out⟩
    (fun x => { tmps := #[.func (.yield lo) #[] #[], .pointer (some ⟨Bp, 0, none⟩), .pointer (some ⟨W.heap.size, 0, none⟩), .string x, .string path,
      .func (.func 56) #[] #[.pointer (some ⟨W.heap.size + 1 + 1, 0, none⟩), .pointer (some ⟨W.heap.size + 1, 0, none⟩), .pointer (some ⟨W.heap.size + 1 + 1 + 1, 0, none⟩)], .string x, undef, undef, undef, undef, undef, undef, undef, undef], defers := [] }) ?assign ?body ?done ?stop
  case assign =>
    intro l x A K hK
    gi_wp2
    exact hK
  case body =>
    rintro l pre x A ⟨hJ, hb⟩ hk hsz hlen
    have e0 := hb.cell
    have HB := Lib.hid hb
    clear hb
    cases hx : x.toList.isEmpty with
    | true =>
      have e1 := fl_snoc_no (xs := pre) hx
      have E1 := Lib.hid e1
      clear e1
      gi_wp2
      refine ⟨fun _ h => (by cases h), ?_⟩
      gi_wp2
      refine ⟨Stay.refl _ _, Stay.refl _ _, ?_, HB.out⟩
      rw [E1.out]; exact hJ
    | false =>
      have e1 := fl_snoc (xs := pre) hx
      have E1 := Lib.hid e1
      clear e1
      obtain ⟨fn, tmps, assign, body, hy, hR⟩ := hY (fl pre) x A hJ (fun k h => by rw [SZ] at hsz; omega) (by have := fl_length pre; omega)
      gi_wp2
      refine ⟨fun _ => by omega, ?_⟩
      refine (round_any hR).mono ?_
      rintro e A3 (⟨rfl, hJ3, hk3⟩ | ⟨rfl, hJx3, hk3⟩)
      · gi_wp2
        refine ⟨hk3.mono fun k h => by rw [SZ] at h; omega, hk3.mono fun k h => by omega, ?_, Boxed.stay HB.out hk3 (by omega)⟩
        rw [E1.out]; exact hJ3
      · gi_wp2
        refine ⟨hk3.mono fun k h => by rw [SZ] at h; omega, hk3.mono fun k h => by omega, rfl, ?_⟩
        rw [E1.out]; exact hJx3
  case done =>
    rintro D xs A rfl hS ⟨hJ, _⟩ hD
    gi_wp2
    refine ⟨by simp, .inl ⟨_, _, rfl, run_takeDeferred hD, ?_⟩⟩
    refine ⟨_, results_none rfl _ _ _, ⟨_, rfl⟩, .inl ⟨fl xs, fl_pts hS, bJ _ _ _ hJ (Only.putObj _ _ ?_)⟩⟩
    rw [SZ]; omega
  case stop =>
    rintro D c pre A rfl hSp ⟨rfl, hJx⟩ hD
    gi_wp2
    refine ⟨by simp, .inl ⟨_, _, rfl, run_takeDeferred hD, ?_⟩⟩
    refine ⟨_, results_none rfl _ _ _, ⟨_, rfl⟩, .inr ⟨fl pre, fl_pre hSp, bJx _ _ _ hJx (Only.putObj _ _ ?_)⟩⟩
    rw [SZ]; omega
end Go.Proofs.YtganpdplikbppaaDoor
