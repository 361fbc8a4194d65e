import Derived.Test.YtckapapejfnojaaGreatDoorStG
namespace Go.Proofs.YtckapapejfnojaaGreatDoor
open Go.RowKit
set_option linter.unusedVariables false
set_option linter.unusedSimpArgs false

theorem OwnArr.isIn {av : Nat → Prop} {w : World} {v : Value} {z n B : Nat} {C : Nat → Nat → Value} (h : OwnArr w v z n C B) (hav : 0 < n → av B) : IsArr av w v z n C := by
  obtain ⟨ao, cap, rfl, h1, h2⟩ := h.is
  refine ⟨ao, cap, rfl, h1, fun hn => ?_⟩
  obtain ⟨b, o, rfl, hb, hc⟩ := h2 hn
  subst hb
  exact ⟨_, o, rfl, hav hn, hc⟩
/-- texts no longer than texts can be. -/
structure TextP (p : PD) : Prop where
  name : p.name.size ≤ 9223372036854775807
  consts : ∀ i, i < p.consts.n → (p.consts.f i).text.size ≤ 9223372036854775807
  upNames : ∀ i, i < p.upNames.n → (p.upNames.f i).size ≤ 9223372036854775807
theorem IsProto.text {av : Nat → Prop} {w : World} {a3 a4 a5 a8 a9 : Value} {p : PD} (h : IsProto av w a3 a4 a5 a8 a9 p) : TextP p := ⟨h.name, h.consts.2, h.upNames.2⟩
theorem TextP.mark (k : Int) (p : PD) : TextP (mkP k p) := ⟨mt_size _, fun _ _ => mt_size _, fun _ _ => mt_size _⟩
theorem COwn.protos {w : World} {v : Value} {n : Nat} {f : Nat → PD} {lo hi B0 : Nat} {rng : Nat → Nat} {a : Nat → Nat → Value} {b : Nat → Nat → Nat} (h : COwn w v n f lo hi B0 rng a b) (hB : 0 < n → B0 < hi) (ht : ∀ i, i < n → TextP (f i)) :
    IsProtos (fun c => lo ≤ c ∧ c < hi) w v ⟨n, f⟩ := by
  refine ⟨a 3, a 4, a 5, a 8, a 9, h.cells.isIn fun hp => ⟨h.B0lo, hB hp⟩, fun i hi' => ?_⟩
  have e := h.each i hi'
  have l1 := rng_le h.mono 0 (2 * i) (by omega)
  have hin : i < n := hi'
  have l2 := rng_le h.mono (2 * i + 1) (2 * n) (by omega)
  have l3 := h.B0out.1
  have l4 := h.hi'
  have t := ht i hi'
  exact ⟨e.o3.isIn fun hp => by have := e.r3 hp; omega, ⟨e.o4.isIn fun hp => by have := e.r4 hp; omega, t.consts⟩, e.o5.isIn fun hp => by have := e.r5 hp; omega, e.o8.isIn fun hp => by have := e.r8 hp; omega, ⟨e.o9.isIn fun hp => by have := e.r9 hp; omega, t.upNames⟩, t.name⟩
theorem COwn.nil (w : World) (f : Nat → PD) (hi : Nat) : COwn w (.slice none 0 0) 0 f hi hi hi (fun _ => hi) (fun _ _ => undef) (fun _ _ => 0) :=
  ⟨⟨none, 0, rfl, by omega, fun h => absurd h (Nat.lt_irrefl 0)⟩, Nat.le_refl _, ⟨Nat.le_refl _, fun i hi => absurd hi (Nat.not_lt_zero _)⟩, fun _ => Nat.le_refl _, Nat.le_refl _, fun i hi => absurd hi (Nat.not_lt_zero _)⟩
theorem COwn.keep {w w' : World} {v : Value} {n : Nat} {f : Nat → PD} {lo hi B0 : Nat} {rng : Nat → Nat} {a : Nat → Nat → Value} {b : Nat → Nat → Nat} (h : COwn w v n f lo hi B0 rng a b) (hB : 0 < n → B0 < hi) (hk : ∀ c, lo ≤ c → c < hi → w'.heap[c]? = w.heap[c]?) : COwn w' v n f lo hi B0 rng a b := by
  refine ⟨h.cells.keep fun hp => hk _ h.B0lo (hB hp), h.B0lo, h.B0out, h.mono, h.hi', fun i hi' => (h.each i hi').keep fun c h1 h2 h3 => hk c ?_ ?_⟩
  · have l1 := rng_le h.mono 0 (2 * i) (by omega)
    have l3 := h.B0out.1
    omega
  · have l2 := rng_le h.mono (2 * i + 1) (2 * n) (by omega)
    have l4 := h.hi'
    omega
theorem kAt_bound {n : Nat} {f : Nat → PD} (hs : SmallC ⟨n, f⟩) : ∀ i, i ≤ n → 1 ≤ kAt 1 f i ∧ kAt 1 f i ≤ 576460752303423488 := by
  have key : ∀ i, i ≤ n → 1 ≤ kAt 1 f i ∧ kAt 1 f i ≤ 1 + 9000000 * (i : Int) := by
    intro i
    induction i with
    | zero => intro _; exact ⟨by simp [kAt], by simp [kAt]⟩
    | succ i ih =>
      intro hi
      obtain ⟨h1, h2⟩ := ih (by omega)
      obtain ⟨s3, s4, s5, s8, s9⟩ := hs.2 i (by show i < n; omega)
      have e : kAt 1 f (i + 1) = kNext (kAt 1 f i) (f i) := rfl
      rw [e]
      unfold kNext k8 k5 k4 k3
      simp only at s3 s4 s5 s8 s9
      constructor
      · omega
      · omega
  intro i hi
  obtain ⟨h1, h2⟩ := key i hi
  have hn : n ≤ 1048576 := hs.1
  exact ⟨h1, by omega⟩
end Go.Proofs.YtckapapejfnojaaGreatDoor
