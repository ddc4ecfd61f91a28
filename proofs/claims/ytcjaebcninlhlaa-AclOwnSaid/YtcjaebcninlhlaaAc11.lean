/- All that a list names, spoilt. -/
import Derived.Test.YtcjaebcninlhlaaAc9
set_option linter.unusedSimpArgs false
set_option linter.unusedVariables false
namespace Go.Proofs.Ytcjaebcninlhlaa
open Go.RowKit Go.Sort Go.Lib
/-- The blocks of a list's rows. -/
def OfRows (p : Lie) (k : Nat) : Prop := (∃ ad, p.A = some ad ∧ ad.block = k) ∨ ∃ ad, p.B = some ad ∧ ad.block = k
section
variable {w w' : World} {g n c k : Nat} {L : List Nm}
theorem OwnR.put {v : Value} {xs : List Value} {e : TypeId} {size : Nat} (h : OwnR w e size (some ⟨g, 0, none⟩) n c xs) (i : Nat) : OwnR (w.setCell ⟨g, i, none⟩ v) e size (some ⟨g, 0, none⟩) n c (xs.set i v) := by
  obtain ⟨h1, h2, h3, h4⟩ := h
  refine ⟨by rw [List.length_set]; exact h1, h2, h3, .inr ?_⟩
  rcases h4 with ⟨h4, _⟩ | ⟨g', cur, h4, hg, h5, h6⟩
  · cases h4
  · injection h4 with h4
    injection h4 with h4
    subst h4
    refine ⟨g, cur.setIfInBounds i v, rfl, set_cell hg i v, by simpa using h5, ?_⟩
    rw [Array.toList_setIfInBounds, List.take_set, h6]
theorem OwnR.head {xs : List Value} {e : TypeId} {size : Nat} {A : Option Addr} (h : OwnR w e size A n c xs) (hn : 0 < n) : ∃ g, A = some ⟨g, 0, none⟩ ∧ ∃ cur, w.heap[g]? = some (.cells cur e (0, 0)) := by
  obtain ⟨h1, h2, h3, h4⟩ := h
  rcases h4 with ⟨h4, h5⟩ | ⟨g', cur, h4, hg, h5, h6⟩
  · omega
  · exact ⟨g', h4, cur, hg⟩
theorem open_of {w : World} {g : Nat} {cur : Array Value} {e : TypeId} (h : w.heap[g]? = some (.cells cur e (0, 0))) (k : Nat) : w.frozen? ⟨g, k, none⟩ = false := by simp [World.frozen?, h]
theorem OwnR.other {xs : List Value} {e : TypeId} {size : Nat} {A : Option Addr} (h : OwnR w e size A n c xs) {a : Addr} (v : Value) (hne : ∀ ad, A = some ad → ad.block ≠ a.block) : OwnR (w.setCell a v) e size A n c xs :=
  h.keep fun ad e => Below.heap_setCell w a v ad.block (hne ad e)
end
/-- Round by round: rows of n and m named ones; the box. -/
structure Sp (w wr : World) (x : Ac) (p : Lie) (L M : List Nm) : Prop where
  box : Ab wr w.heap.size x p
  us : OwnR wr 40 2 p.A x.us.length p.c (nv L)
  gs : OwnR wr 40 2 p.B x.gs.length p.d (nv M)
  ul : L.length = x.us.length
  gl : M.length = x.gs.length
  pm : ∀ (k : Nat) q, M[k]? = some q → q.pm < 256
  low : Only (OfRows p) w wr
section
variable {w wr : World} {x : Ac} {p : Lie} {L M : List Nm}
theorem Sp.user (h : Sp w wr x p L M) (hne : ∀ a b, p.A = some a → p.B = some b → a.block ≠ b.block) (hlt : ∀ ad, p.A = some ad → ad.block < w.heap.size) {g k : Nat} {q : Nm} (hA : p.A = some ⟨g, 0, none⟩) (hq : L[k]? = some q) (v : Nat) :
    Sp w (wr.setCell ⟨g, k * 2, none⟩ (.int .u16 (v : Nat))) x p (L.set k ⟨v, q.pm⟩) M := by
  have hO : OfRows p g := .inl ⟨_, hA, rfl⟩
  have hg := hlt _ hA
  have hg' : g < w.heap.size := hg
  refine ⟨h.box.other _ (by show w.heap.size ≠ g; omega), ?_, h.gs.other _ (fun ad e => show ad.block ≠ g from (hne ⟨g, 0, none⟩ ad hA e).symm), by rw [List.length_set]; exact h.ul, h.gl, h.pm, h.low.setCell (p := ⟨g, k * 2, none⟩) (.inl hO) _⟩
  have h1 := h.us
  rw [hA] at h1 ⊢
  rw [nv_setId L v hq]
  exact h1.put _
theorem Sp.group (h : Sp w wr x p L M) (hne : ∀ a b, p.A = some a → p.B = some b → a.block ≠ b.block) (hlt : ∀ ad, p.B = some ad → ad.block < w.heap.size) {g k : Nat} {q : Nm} (hB : p.B = some ⟨g, 0, none⟩) (hq : M[k]? = some q) (v : Nat) (hv : v < 256) :
    Sp w (wr.setCell ⟨g, k * 2 + 1, none⟩ (.int .u8 (v : Nat))) x p L (M.set k ⟨q.id, v⟩) := by
  have hO : OfRows p g := .inr ⟨_, hB, rfl⟩
  have hg := hlt _ hB
  have hg' : g < w.heap.size := hg
  refine ⟨h.box.other _ (by show w.heap.size ≠ g; omega), h.us.other _ (fun ad e => show ad.block ≠ g from hne ad ⟨g, 0, none⟩ e hB), ?_, h.ul, by rw [List.length_set]; exact h.gl, ?_, h.low.setCell (p := ⟨g, k * 2 + 1, none⟩) (.inl hO) _⟩
  · have h1 := h.gs
    rw [hB] at h1 ⊢
    rw [nv_setPm M v hq]
    exact h1.put _
  · intro j r hr
    rw [List.getElem?_set] at hr
    split at hr
    · split at hr
      · injection hr with hr; rw [← hr]; exact hv
      · cases hr
    · exact h.pm j r hr
theorem Sp.drew (h : Sp w wr x p L M) : Sp w wr.drew x p L M := ⟨h.box, h.us, h.gs, h.ul, h.gl, h.pm, h.low.drew⟩
theorem Sp.drewN (h : Sp w wr x p L M) (n : Nat) : Sp w (wr.drewN n) x p L M := ⟨h.box, h.us, h.gs, h.ul, h.gl, h.pm, h.low.drewN n⟩
end
set_option maxRecDepth 100000 in
set_option maxHeartbeats 2000000 in
theorem spoil_calls (w0 w : World) (x : Ac) (p : Lie) (h : Copied w0 w x p) (hs : Sm x) (hx : Nb x) : Calls Try.prog 22 #[x.v p] w fun e w' => e = .returned (.tuple #[]) ∧ Only (OfRows p) w w' := by
  have S0 : Hid (Sp w (w.alloc (.cells (x.c p) 24)) x p x.us x.gs) := Lib.hid ⟨Ab.new w x p, h.us.1.keep fun ad e => Below.heap_alloc w _ _ (h.us.1.lt ad e), h.gs.1.keep fun ad e => Below.heap_alloc w _ _ (h.gs.1.lt ad e), rfl, rfl, hx.pm, (Only.refl _ _).alloc _⟩
  have HNE := Lib.hid h.ne
  have HLA := Lib.hid h.below_size.1
  have HLB := Lib.hid h.below_size.2
  obtain ⟨s1, s2⟩ := hs
  obtain ⟨n, hn⟩ : ∃ n, x.us.length = n := ⟨_, rfl⟩
  obtain ⟨m, hm⟩ : ∃ m, x.gs.length = m := ⟨_, rfl⟩
  have HN := Lib.hid hn
  have HM := Lib.hid hm
  rw [hn] at s1
  rw [hm] at s2
  unfold Ac.v
  unfold Ac.c at S0 ⊢
  rw [hn, hm] at S0 ⊢
  clear hn hm h hx
  go_enter Try.func22, Try.ntmps22
  go_wp2_with (fail)
  go_loopw [2] (fun i wr => ∃ (k : Nat) (L : List Nm), i = .int .i64 k ∧ k ≤ n ∧ Hid (Sp w wr x p L x.gs)) (fun i _ => n - (intOf i).toNat)
  case atStart => exact ⟨0, x.us, rfl, by omega, S0⟩
  case round =>
    obtain ⟨k, L, rfl, hk, hS⟩ := hrel
    obtain ⟨y0, y1, y2, y3, y4, y5, y6⟩ := hS.out.box.cells
    rw [HN.out] at y3
    rw [HM.out] at y4
    by_cases hkn : k < n
    · obtain ⟨g, hA, cur, hcur⟩ := hS.out.us.head (by rw [HN.out]; omega)
      obtain ⟨q, hq⟩ : ∃ q, L[k]? = some q := ⟨_, List.getElem?_eq_getElem (by rw [hS.out.ul, HN.out]; exact hkn)⟩
      have hcel := hS.out.us.cel
      rw [hA] at hcel y3
      obtain ⟨r0, r1⟩ := hcel.nm0 hq
      simp only [Nat.zero_add] at r0 r1
      have f0 := open_of hcur (k * 2)
      have HS2 := Lib.hid (hS.out.user HNE.out HLA.out hA hq ((q.id + 1) % 65536))
      clear hcel hcur
      go_wp2_with (fail)
      have e1 : IntKind.u16.wrap ((q.id : Int) + 1) = (((q.id + 1) % 65536 : Nat) : Int) := by rw [IntKind.wrap_u16]; omega
      go_roundw
      case rel => exact ⟨k + 1, L.set k ⟨(q.id + 1) % 65536, q.pm⟩, by go_num, by omega, by rw [e1]; exact HS2⟩
      case measure => simp [intOf]; omega
    · obtain rfl : k = n := by omega
      have HSU := hS
      clear hS y0 y1 y2 y4 y5 y6
      go_wp2_with (fail)
      clear y3
      go_loopw [3] (fun i wr => ∃ (j : Nat) (M : List Nm), i = .int .i64 j ∧ j ≤ m ∧ Hid (Sp w wr x p L M)) (fun i _ => m - (intOf i).toNat)
      case atStart => exact ⟨0, x.gs, rfl, by omega, HSU⟩
      case round =>
        obtain ⟨j, M, rfl, hj, hS⟩ := hrel
        obtain ⟨y0, y1, y2, y3, y4, y5, y6⟩ := hS.out.box.cells
        rw [HN.out] at y3
        rw [HM.out] at y4
        by_cases hjm : j < m
        · obtain ⟨g, hB, cur, hcur⟩ := hS.out.gs.head (by rw [HM.out]; omega)
          obtain ⟨q, hq⟩ : ∃ q, M[j]? = some q := ⟨_, List.getElem?_eq_getElem (by rw [hS.out.gl, HM.out]; exact hjm)⟩
          have hcel := hS.out.gs.cel
          rw [hB] at hcel y4
          obtain ⟨r0, r1⟩ := hcel.nm0 hq
          simp only [Nat.zero_add] at r0 r1
          have f0 := open_of hcur (j * 2 + 1)
          have h256 := hS.out.pm j q hq
          have hx0 := u8_xor_nat q.pm 1 h256 (by decide)
          have hx1 : q.pm ^^^ 1 < 256 := Nat.xor_lt_two_pow (n := 8) h256 (by decide)
          have HS2 := Lib.hid (hS.out.group HNE.out HLB.out hB hq (q.pm ^^^ 1) hx1)
          have hne : ¬ g = w.heap.size := by have := HLB.out _ hB; have : g < w.heap.size := this; omega
          have hne2 : ¬ w.heap.size = g := by omega
          have HX := Lib.hid hx0
          clear hcel hcur hx0 hx1 h256
          go_wp2_with (go_region)
          go_roundw
          case rel => exact ⟨j + 1, M.set j ⟨q.id, q.pm ^^^ 1⟩, by go_num, by omega, by rw [show bits .xor .u8 (q.pm : Int) 1 = _ from HX.out]; exact Lib.hid HS2.out.drew⟩
          case measure => simp [intOf]; omega
        · obtain rfl : j = m := by omega
          have HL := Lib.hid hS.out.low
          clear hS
          go_wp2_with (fail)
          exact bodyPost_end (results_none rfl _ _ _) rfl ⟨rfl, HL.out⟩
end Go.Proofs.Ytcjaebcninlhlaa
