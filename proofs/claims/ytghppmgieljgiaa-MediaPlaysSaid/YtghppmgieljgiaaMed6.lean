/- Store. -/
import Derived.Test.YtghppmgieljgiaaMed5
namespace Go.Proofs.Ytghppmgieljgiaa
open Go.RowKit
theorem store_nil (a v : Int) (w : World) : Calls Try.prog 13 #[.pointer none, .int .i64 a, .int .u64 v] w fun e w' => e = .returned (.int .i64 1) ∧ w = w' := by
  go_enter Try.func13, Try.ntmps13
  go_wp2_with (go_at_call 33; refine (lacks_nil _ _).mono ?_; rintro e w' ⟨rfl, rfl⟩)
  go_ret
  exact ⟨rfl, rfl⟩
section
variable {w : World} {g : Nat} {F : Nat → Prop} {K S : List Nat} {L : List Pn}
theorem store_out (h : Dev w g F K S L) (a v : Int) (ha : ¬ (0 ≤ a ∧ a < K.length)) (hm : K.length ≤ 9223372036854775807) :
    Calls Try.prog 13 #[.pointer (some ⟨g, 0, none⟩), .int .i64 a, .int .u64 v] w fun e w' => e = .returned (.int .i64 2) ∧ w = w' := by
  obtain ⟨gk, ck, gs, cs, A, cp, hd, f1, f2, f3, f4, f5⟩ := h
  go_enter Try.func13, Try.ntmps13
  go_wp2_with (go_at_call 33; refine (lacks_out hd a ha hm).mono ?_; rintro e w' ⟨rfl, rfl⟩)
  go_ret
  exact ⟨rfl, rfl⟩
theorem store_in (h : Dev w g F K S L) (a v : Nat) (ha : a < K.length) (hS : S.length = K.length) (hm : K.length ≤ 1099511627776) (hL : L.length ≤ 1099511627776) :
    Calls Try.prog 13 #[.pointer (some ⟨g, 0, none⟩), .int .i64 (a : Nat), .int .u64 (v : Nat)] w fun e w' => e = .returned (.int .i64 0) ∧ Turn w g F K (S.set a v) (L ++ [⟨a, v, false⟩]) w' := by
  obtain ⟨gk, ck, gs, cs, A, cp, hd, f1, f2, f3, f4, f5⟩ := h
  obtain ⟨i0, hi0, hz0, hs0, hb0⟩ := info_parts pend_info
  have HI := Lib.hid hi0
  have HZ := Lib.hid hz0
  have HS := Lib.hid hs0
  have HB := Lib.hid hb0
  have HSK := Lib.hid hS
  have ha' : a < S.length := by omega
  clear hi0 hz0 hs0 hb0 hS
  have c2 := hd.c2
  have HO := Lib.hid (fun o => hd.hp.keep (w' := w.alloc o) fun ad e => Below.heap_alloc _ _ _ (f5 _ (f4 ad e)))
  go_enter Try.func13, Try.ntmps13
  go_wp2_with (fail)
  refine (lacks_in hd a ha (by omega)).mono ?_
  rintro e w' ⟨rfl, rfl⟩
  go_wp2_with (at_builtin; refine wpList_append_r rfl (.tmp 18) (.tmp 22) 48 rfl 61 i0 _ 3 24 Try.underlying48 HI.out HZ.out HS.out HB.out rfl A L.length cp (pv L) rfl (HO.out _) ⟨w.heap.size, 0, none⟩ 1 1 (pv [⟨a, v, false⟩]) rfl rfl (cells_one ⟨a, v, false⟩ 61 (heap_alloc_new _ _)) (pv_one _) (by decide) (by unfold maxLen; omega) (by omega) ?_; intro g' c' w1 hown hgr hg; obtain ⟨x0, x1, x2, xs⟩ := hd.pushed_old hgr; have x3 := xs.cell a ha'; have x4 := xs.frozen a; have n1 := hd.gs_ne; have n2 := Ne.symm hd.gs_ne; have d1 := hd.pushed ⟨a, v, false⟩ hown hgr; have y2 := d1.hs.cell a ha'; have y3 := d1.hs.frozen a; clear c2)
  go_ret
  have hg' : F g' ∨ w.heap.size ≤ g' := by
    rcases hg with hg | hg
    · exact .inl (f4 _ hg)
    · exact .inr (by rw [hg]; simp)
  have ho : Only F w ((w1.setCell ⟨g, 2, none⟩ (.slice (some ⟨g', 0, none⟩) (L.length + 1) c')).setCell ⟨gs, a, none⟩ (.int .u64 (v : Nat))) :=
    Only.setCell (p := ⟨gs, a, none⟩) (Only.setCell (p := ⟨g, 2, none⟩) (((Only.refl F w).alloc _).grown hgr fun k e => by
      rcases A with _ | ad
      · cases e
      · injection e with e
        subst e
        exact .inl (f4 _ rfl)) (.inl f1) _) (.inl f3) _
  have hl := hown.lt _ rfl
  refine ⟨rfl, Turn.mk (F' := fun i => F i ∨ i = g') (d1.seen_set a v) ho (.inl f1) (.inl f2) (.inl f3) (fun ad e => by injection e with e; subst e; exact .inr rfl) fun i hi => ?_⟩
  rcases hi with hi | rfl
  · exact ⟨.inl hi, Nat.lt_of_lt_of_le (f5 i hi) ho.size⟩
  · exact ⟨hg', by simpa [World.setCell] using hl⟩
end
end Go.Proofs.Ytghppmgieljgiaa
