import Derived.Test.YtcbifllencnbaaaImF
import Derived.Test.YtcbifllencnbaaaRngN
import Derived.Test.YtcbifllencnbaaaChQ
import Derived.Lib.SlBytesConst
namespace Go.Proofs.Ytcbifllencnbaaa
open Go.RowKit Go.Lib Go.Shelf
set_option linter.unusedVariables false
set_option linter.unusedSimpArgs false
attribute [local go_sem] Oper.semAt_some
/-- the bytes of some prototypes. -/
noncomputable def bytesL (s : Sl PD) (pre : List (Fin s.n)) : ByteArray := pre.foldl (fun b x => b ++ protoB (s.f x.val)) ByteArray.empty
theorem bytesL_snoc (s : Sl PD) (pre : List (Fin s.n)) (x : Fin s.n) : bytesL s (pre ++ [x]) = bytesL s pre ++ protoB (s.f x.val) := by simp [bytesL]
theorem bytesL_take (s : Sl PD) : ∀ i, i ≤ s.n → bytesL s ((List.finRange s.n).take i) = cat (fun i => protoB (s.f i)) i
  | 0, _ => rfl
  | i + 1, h => by
    have e : (List.finRange s.n).take (i + 1) = (List.finRange s.n).take i ++ [⟨i, by omega⟩] := by
      rw [List.take_add_one]
      simp [show i < s.n by omega]
    rw [e, bytesL_snoc, bytesL_take s i (by omega)]
    rfl
theorem bytesL_all (s : Sl PD) : headB ++ bytesL s (List.finRange s.n) = chunkB s := by
  have := bytesL_take s s.n (Nat.le_refl _)
  rw [List.take_of_length_le (by simp)] at this
  rw [this]
  rfl
theorem bytesL_size_acc {s : Sl PD} (hwf : Wf s) : ∀ (pre : List (Fin s.n)) (acc : ByteArray), (pre.foldl (fun b x => b ++ protoB (s.f x.val)) acc).size ≤ acc.size + pre.length * 1000000
  | [], acc => by simp
  | x :: pre, acc => by
    have h1 := bytesL_size_acc hwf pre (acc ++ protoB (s.f x.val))
    have h2 := protoB_size _ (hwf.each x.val x.isLt)
    rw [ByteArray.size_append] at h1
    rw [List.foldl_cons, List.length_cons, Nat.add_mul]
    omega
theorem bytesL_size {s : Sl PD} (hwf : Wf s) (pre : List (Fin s.n)) : (bytesL s pre).size ≤ pre.length * 1000000 := by
  have := bytesL_size_acc hwf pre ByteArray.empty
  simpa [bytesL] using this
/-- between two rounds. -/
def DI (s : Sl PD) (P Q0 lo H : Nat) (wB : World) (pre : List (Fin s.n)) (U : Nat → Prop) (W : World) : Prop :=
  Below lo wB W ∧ ∃ vv, RowL W P 49 [vv] ∧ RowL W Q0 47 [.pointer (some ⟨P, 0, none⟩)] ∧ Buf W 5 vv (headB ++ bytesL s pre) ∧ vv.ownBlock ≠ some P ∧ vv.ownBlock ≠ some Q0 ∧
    (∀ g, vv.ownBlock = some g → lo ≤ g ∧ (g < H ∨ H + 2 ≤ g)) ∧ ∀ c, U c ↔ c = P ∨ c = Q0 ∨ vv.ownBlock = some c
theorem DI.footU (s : Sl PD) (P Q0 lo H : Nat) (wB : World) : FootU lo (DI s P Q0 lo H wB) := by
  rintro pre U A C ⟨h1, vv, h2, h3, h4, h5, h6, h7, h8⟩ e1 e2 e3 e4 e5 e6
  exact ⟨⟨e1.trans h1.os, e2.trans h1.tape, e3.trans h1.output, Nat.le_trans h1.size e4, fun c hc => (e6 c hc).trans (h1.block c hc)⟩, vv, World.rowIs.of_block h2 (e5 _ ((h8 _).2 (.inl rfl))), World.rowIs.of_block h3 (e5 _ ((h8 _).2 (.inr (.inl rfl)))), h4.keep fun k hk => e5 k ((h8 k).2 (.inr (.inr hk))), h5, h6, h7, h8⟩
theorem DI.step {s : Sl PD} {P Q0 lo H : Nat} {wB W Wd W' : World} {pre : List (Fin s.n)} {U : Nat → Prop} {x : Fin s.n} {vv v' : Value}
    (hB : Below lo wB W) (hlo : lo ≤ W.heap.size) (hP : lo ≤ P) (hQP : Q0 ≠ P) (h3 : RowL W Q0 47 [.pointer (some ⟨P, 0, none⟩)]) (h6 : vv.ownBlock ≠ some Q0)
    (h7 : ∀ g, vv.ownBlock = some g → lo ≤ g ∧ (g < H ∨ H + 2 ≤ g)) (h8 : ∀ c, U c ↔ c = P ∨ c = Q0 ∨ vv.ownBlock = some c) (hH : H + 2 ≤ W.heap.size)
    (hd : Below W.heap.size W Wd) (hds : Wd.heap.size = W.heap.size) (hT : Wt P Wd vv W' v' (headB ++ bytesL s pre ++ protoB (s.f x.val))) :
    ∃ U', GrowU U U' W W' ∧ DI s P Q0 lo H wB (pre ++ [x]) U' W' := by
  have hf : Fr (fun k => k = P) W vv W' v' := Fr.after hd hT.fr
  have ho := hf.own
  refine ⟨fun c => c = P ∨ c = Q0 ∨ v'.ownBlock = some c, ⟨hf.size, fun b hb hU => ?_, fun b hb => ?_⟩, ?_, v', hT.box, ?_, ?_, hT.ne, ?_, ?_, fun _ => Iff.rfl⟩
  · rw [h8] at hU
    exact hf.block b hb (fun e => hU (.inl e)) (fun e => hU (.inr (.inr e)))
  · rw [h8]
    rcases hb with e | e | e
    · exact .inl (.inl e)
    · exact .inl (.inr (.inl e))
    · rcases ho with o | o
      · exact .inl (.inr (.inr (o ▸ e)))
      · exact .inr (o b e)
  · exact hB.trans (hf.below hlo (fun k hk => by subst hk; exact hP) (fun k hk => (h7 k hk).1))
  · exact World.rowIs.of_block h3 (hf.block _ h3.lt hQP h6)
  · rw [bytesL_snoc, ← ByteArray.append_assoc]
    exact hT.buf
  · intro e
    rcases ho with o | o
    · exact h6 (o ▸ e)
    · have := o _ e
      have := h3.lt
      omega
  · intro g hg
    rcases ho with o | o
    · exact h7 g (o ▸ hg)
    · have := o g hg
      exact ⟨by omega, .inr (by omega)⟩
def noDefer (ops : Array Oper) : Bool := ops.all fun o => match o.op with | .defer _ => false | _ => true
theorem noDefer_of {ops : Array Oper} (h : noDefer ops = true) (i : Nat) (o : Oper) (ho : ops[i]? = some o) (c : _) : o.op ≠ .defer c := fun e => by
  have hm := Array.all_eq_true'.1 h o (Array.mem_of_getElem? ho)
  rw [e] at hm
  cases hm
set_option maxRecDepth 100000 in
set_option maxHeartbeats 4000000 in
theorem implDump_in (s : Sl PD) (v : Value) (w : World) (hv : IsProtos (· < w.heap.size) w v s) (hbd : Bnd s) :
    Calls Try.prog 7 #[.agg #[v]] w fun e w' => ((Wf s ∧ e = .returned (.tuple #[.string (chunkB s), .bool true])) ∨ (¬ Wf s ∧ e = .returned (.tuple #[.string ⟨#[]⟩, .bool false]))) ∧ Below w.heap.size w w' := by
  have hv' : Hid (IsProtos (· < w.heap.size) w v s) := hv
  have hkids : Hid (∀ ao cap, v = .slice ao s.n cap → 0 < s.n → ∃ b o, ao = some ⟨b, o, none⟩ ∧ b < w.heap.size ∧ ∀ i, i < s.n → w.cell? ⟨b, o + i * 10 + 6, none⟩ = some (.int .i64 (kidsOf s i))) := fun ao cap he hp => by
    subst he
    exact hv.kids hp
  obtain ⟨a3, a4, a5, a8, a9, ⟨ao, cap, rfl, hn, hc⟩, ht⟩ := hv
  replace hc : Hid (0 < s.n → ∃ b o, ao = some ⟨b, o, none⟩ ∧ b < w.heap.size ∧ ∀ i, i < s.n → ∀ j, j < 10 → w.cell? ⟨b, o + i * 10 + j, none⟩ = some (pC s.f a3 a4 a5 a8 a9 i j)) := hc
  replace ht : Hid (∀ i, i < s.n → IsProto (· < w.heap.size) w (a3 i) (a4 i) (a5 i) (a8 i) (a9 i) (s.f i)) := ht
  replace hbd : Hid (Bnd s) := hbd
  obtain ⟨m, hm⟩ : ∃ m, 8 ≤ m := ⟨8, by omega⟩
  refine (callsIn_wide (n := m)).1 ?_
  refine callsIn_of_wp_marks Try.func7 rfl trivial ?_ rfl
  simp only [Try.ntmps7, List.size_toArray, List.length_cons, List.length_nil, Nat.reduceAdd, Nat.reduceSub, Array.replicate_succ, Array.replicate_zero, List.push_toArray, List.append_toArray, List.nil_append, List.cons_append]
  gi_wp2_with fail
  have R0 := RowL.new w [.slice ao s.n cap] 30
  have bw : Below w.heap.size w (w.alloc (.cells #[.slice ao s.n cap] 30)) := by go_grown
  generalize w.alloc (.cells #[.slice ao s.n cap] 30) = w3 at R0 bw ⊢
  refine ⟨trivial, fun _ => by omega, ?_⟩
  refine (callsIn_wide.2 (implWF_in s _ _ (hv'.out.later bw))).mono ?_
  rintro e y ⟨⟨r, rfl, hr⟩, b1⟩
  replace R0 := R0.call b1
  replace bw := bw.trans (b1.mono bw.size)
  clear b1
  have q0 := R0.cell 0 rfl
  obtain rfl | rfl : r = false ∨ r = true := by cases r <;> simp
  · have hno : Hid (¬ Wf s) := fun h => by simpa using hr.2 h
    clear hr hkids hv' R0
    gi_wp2
    exact ⟨.tuple #[.string ⟨#[]⟩, .bool false], by simp [results, Try.results7, go_sem], .inr ⟨hno.out, rfl⟩, bw⟩
  have hwf : Hid (Wf s) := hr.1 rfl
  clear hr
  -- the rest
  have hlow := hwf.out.low
  have hhigh := hwf.out.high
  have hcv := run_convert_bytes_const (P := Try.prog) y 36 5 #[.int .u8 27, .int .u8 76, .int .u8 82, .int .u8 86, .int .u8 1, .int .u8 0] 6 6 Try.underlying36 Try.underlying5
  have q0' := (((R0.alloc (.cells #[.int .u8 27, .int .u8 76, .int .u8 82, .int .u8 86, .int .u8 1, .int .u8 0] 5 (6, 7))).alloc (.cells #[.slice (some ⟨y.heap.size, 0, none⟩) 6 6] 49)).alloc (.cells #[.pointer (some ⟨y.heap.size + 1, 0, none⟩)] 47)).cell 0 rfl
  gi_wp2_with fail
  refine ⟨trivial, fun _ => by omega, ?_⟩
  refine (callsIn_wide.2 (nodes_in ao s.n cap _)).mono ?_
  rintro e w1 ⟨rfl, rfl⟩
  gi_wp2_with fail
  clear hcv q0' q0
  have R0' : RowL ((((y.alloc (.cells #[.int .u8 27, .int .u8 76, .int .u8 82, .int .u8 86, .int .u8 1, .int .u8 0] 5 (6, 7))).alloc (.cells #[.slice (some ⟨y.heap.size, 0, none⟩) 6 6] 49)).alloc (.cells #[.pointer (some ⟨y.heap.size + 1, 0, none⟩)] 47)).alloc (.cells #[.slice ao s.n cap] 28)) w.heap.size 30 [.slice ao s.n cap] := (((R0.alloc _).alloc _).alloc _).alloc _
  have RP : RowL ((((y.alloc (.cells #[.int .u8 27, .int .u8 76, .int .u8 82, .int .u8 86, .int .u8 1, .int .u8 0] 5 (6, 7))).alloc (.cells #[.slice (some ⟨y.heap.size, 0, none⟩) 6 6] 49)).alloc (.cells #[.pointer (some ⟨y.heap.size + 1, 0, none⟩)] 47)).alloc (.cells #[.slice ao s.n cap] 28)) (y.heap.size + 1) 49 [.slice (some ⟨y.heap.size, 0, none⟩) 6 6] := by
    have := RowL.new (y.alloc (.cells #[.int .u8 27, .int .u8 76, .int .u8 82, .int .u8 86, .int .u8 1, .int .u8 0] 5 (6, 7))) [.slice (some ⟨y.heap.size, 0, none⟩) 6 6] 49
    rw [World.size_alloc] at this
    exact (this.alloc _).alloc _
  have RQ : RowL ((((y.alloc (.cells #[.int .u8 27, .int .u8 76, .int .u8 82, .int .u8 86, .int .u8 1, .int .u8 0] 5 (6, 7))).alloc (.cells #[.slice (some ⟨y.heap.size, 0, none⟩) 6 6] 49)).alloc (.cells #[.pointer (some ⟨y.heap.size + 1, 0, none⟩)] 47)).alloc (.cells #[.slice ao s.n cap] 28)) (y.heap.size + 2) 47 [.pointer (some ⟨y.heap.size + 1, 0, none⟩)] := by
    have := RowL.new ((y.alloc (.cells #[.int .u8 27, .int .u8 76, .int .u8 82, .int .u8 86, .int .u8 1, .int .u8 0] 5 (6, 7))).alloc (.cells #[.slice (some ⟨y.heap.size, 0, none⟩) 6 6] 49)) [.pointer (some ⟨y.heap.size + 1, 0, none⟩)] 47
    rw [World.size_alloc, World.size_alloc] at this
    exact this.alloc _
  have RN : RowL ((((y.alloc (.cells #[.int .u8 27, .int .u8 76, .int .u8 82, .int .u8 86, .int .u8 1, .int .u8 0] 5 (6, 7))).alloc (.cells #[.slice (some ⟨y.heap.size, 0, none⟩) 6 6] 49)).alloc (.cells #[.pointer (some ⟨y.heap.size + 1, 0, none⟩)] 47)).alloc (.cells #[.slice ao s.n cap] 28)) (y.heap.size + 3) 28 [.slice ao s.n cap] := by
    have := RowL.new (((y.alloc (.cells #[.int .u8 27, .int .u8 76, .int .u8 82, .int .u8 86, .int .u8 1, .int .u8 0] 5 (6, 7))).alloc (.cells #[.slice (some ⟨y.heap.size, 0, none⟩) 6 6] 49)).alloc (.cells #[.pointer (some ⟨y.heap.size + 1, 0, none⟩)] 47)) [.slice ao s.n cap] 28
    rwa [World.size_alloc, World.size_alloc, World.size_alloc] at this
  have by0 : Below y.heap.size y ((((y.alloc (.cells #[.int .u8 27, .int .u8 76, .int .u8 82, .int .u8 86, .int .u8 1, .int .u8 0] 5 (6, 7))).alloc (.cells #[.slice (some ⟨y.heap.size, 0, none⟩) 6 6] 49)).alloc (.cells #[.pointer (some ⟨y.heap.size + 1, 0, none⟩)] 47)).alloc (.cells #[.slice ao s.n cap] 28)) := by go_grown
  have hbf : Buf ((((y.alloc (.cells #[.int .u8 27, .int .u8 76, .int .u8 82, .int .u8 86, .int .u8 1, .int .u8 0] 5 (6, 7))).alloc (.cells #[.slice (some ⟨y.heap.size, 0, none⟩) 6 6] 49)).alloc (.cells #[.pointer (some ⟨y.heap.size + 1, 0, none⟩)] 47)).alloc (.cells #[.slice ao s.n cap] 28)) 5 (.slice (some ⟨y.heap.size, 0, none⟩) 6 6) headB := by
    have h1 : ((((y.alloc (.cells #[.int .u8 27, .int .u8 76, .int .u8 82, .int .u8 86, .int .u8 1, .int .u8 0] 5 (6, 7))).alloc (.cells #[.slice (some ⟨y.heap.size, 0, none⟩) 6 6] 49)).alloc (.cells #[.pointer (some ⟨y.heap.size + 1, 0, none⟩)] 47)).alloc (.cells #[.slice ao s.n cap] 28)).heap[y.heap.size]? = some (.cells #[.int .u8 27, .int .u8 76, .int .u8 82, .int .u8 86, .int .u8 1, .int .u8 0] 5 (6, 7)) := by
      rw [Below.heap_alloc _ _ _ (by simp; omega), Below.heap_alloc _ _ _ (by simp; omega), Below.heap_alloc _ _ _ (by simp)]
      exact heap_alloc_new y _
    refine .inr ⟨y.heap.size, 6, _, (6, 7), rfl, h1, .inr (Nat.le_refl _), Nat.le_refl _, by simp [maxLen], rfl, ?_⟩
    rfl
  have sz : ((((y.alloc (.cells #[.int .u8 27, .int .u8 76, .int .u8 82, .int .u8 86, .int .u8 1, .int .u8 0] 5 (6, 7))).alloc (.cells #[.slice (some ⟨y.heap.size, 0, none⟩) 6 6] 49)).alloc (.cells #[.pointer (some ⟨y.heap.size + 1, 0, none⟩)] 47)).alloc (.cells #[.slice ao s.n cap] 28)).heap.size = y.heap.size + 4 := by simp
  have bw' := bw.trans (by0.mono bw.size)
  have hwy := bw.size
  have hRl : w.heap.size < y.heap.size := R0.lt
  clear R0
  generalize (((y.alloc (.cells #[.int .u8 27, .int .u8 76, .int .u8 82, .int .u8 86, .int .u8 1, .int .u8 0] 5 (6, 7))).alloc (.cells #[.slice (some ⟨y.heap.size, 0, none⟩) 6 6] 49)).alloc (.cells #[.pointer (some ⟨y.heap.size + 1, 0, none⟩)] 47)).alloc (.cells #[.slice ao s.n cap] 28) = w0 at R0' RP RQ RN by0 hbf sz bw' ⊢
  refine range_lawO (gf := 29) (lb := #[.pointer (some ⟨y.heap.size + 3, 0, none⟩)]) rfl (enters_of Try.func29 (by kernel_rfl) rfl) (by omega) (encs := fun x : Fin s.n => #[nodeV (kidsOf s) s.n x]) (fun _ => rfl) (lo := y.heap.size) (N := s.n) (by omega)
    (S := fun ys => ys = nodeSeq (kidsOf s) s.n) (Sp := fun pre => pre <+: nodeSeq (kidsOf s) s.n ∧ pre ≠ []) (DI s (y.heap.size + 1) (y.heap.size + 2) y.heap.size w0.heap.size w0) (fun _ _ _ _ => False) (DI.footU _ _ _ _ _ _) (fun _ _ _ _ _ h => h.elim) ?foot2 (fun _ _ _ _ h => h.elim)
    ⟨fun c => c = y.heap.size + 1 ∨ c = y.heap.size + 2 ∨ Value.ownBlock (.slice (some ⟨y.heap.size, 0, none⟩) 6 6) = some c, Below.refl _ _, .slice (some ⟨y.heap.size, 0, none⟩) 6 6, RP, RQ, (by show Buf w0 _ _ (headB ++ ByteArray.empty); rw [ByteArray.append_empty]; exact hbf), (by simp [Value.ownBlock]), (by simp [Value.ownBlock]), (by intro g hg; simp only [Value.ownBlock, Option.some.injEq] at hg; omega), fun _ => Iff.rfl⟩ ?seq
    (fun x a' W => ∃ Bx, w0.heap.size + 2 ≤ Bx ∧ RowL W Bx 54 [.int .i64 (x.val : Int), .int .i64 (depth (EE (kidsOf s) s.n) x.val : Int), .int .i64 (EE (kidsOf s) s.n x.val : Int)] ∧ a' = { tmps := #[.agg #[.slice ao s.n cap], .pointer (some ⟨w.heap.size, 0, none⟩), .string ⟨#[]⟩, .bool false, .pointer (some ⟨y.heap.size + 2, 0, none⟩), .pointer (some ⟨Bx, 0, none⟩), .agg #[.slice ao s.n cap], .bool true, .bool false, .slice (some ⟨y.heap.size, 0, none⟩) 6 6, .slice (some ⟨y.heap.size, 0, none⟩) 6 6, .agg #[.slice (some ⟨y.heap.size, 0, none⟩) 6 6], .pointer (some ⟨y.heap.size + 1, 0, none⟩), .pointer (some ⟨w.heap.size, 0, none⟩), .slice ao s.n cap, .func (.func 29) #[] #[.pointer (some ⟨y.heap.size + 3, 0, none⟩)], .agg #[.int .i64 (x.val : Int), .int .i64 (depth (EE (kidsOf s) s.n) x.val : Int), .int .i64 (EE (kidsOf s) s.n x.val : Int)], undef, undef, undef, undef, undef, undef, undef, undef, undef, undef, undef, undef, undef], defers := [] })
    (fun x a' W o hA => by obtain ⟨Bx, h1, h2, h3⟩ := hA; exact ⟨Bx, h1, h2.putOther (by omega) o, h3⟩)
    ?assign ?body ?done ?stop
  case foot2 =>
    rintro pre U A ⟨h1, vv, h2, h3, h4, h5, h6, h7, h8⟩ c hc
    rcases (h8 c).1 hc with rfl | rfl | e
    · exact ⟨by omega, h2.lt, .inl (by omega)⟩
    · exact ⟨by omega, h3.lt, .inl (by omega)⟩
    · exact ⟨(h7 c e).1, h4.lt c e, (h7 c e).2⟩
  case seq =>
    intro W hW hb
    refine nodes1_own (m - 1) (kidsOf s) s.n cap ao y.heap.size _ _ W (by omega) (by omega) (by omega) ((RN.below hb (by omega)).cell 0 rfl) (fun hp => ?_)
    obtain ⟨b, o, e, hb', hcc⟩ := hkids.out ao cap rfl hp
    exact ⟨b, o, e, by omega, fun i hi => (hb.cell (p := ⟨b, _, none⟩) (by show b < w0.heap.size; omega)).trans ((bw'.cell (p := ⟨b, _, none⟩) hb').trans (hcc i hi))⟩
  case assign =>
    rintro l pre x W K hsz hK
    simp only [nodeV]
    gi_wp2
    refine hK _ _ ((Below.refl _ W).alloc (Nat.le_refl _) _) ⟨W.heap.size, by omega, RowL.new W _ 54, rfl⟩
  case body =>
    rintro l pre x a' U W hsz ⟨hB, vv, hP, hQ, hBu, hneP, hneQ, hrg, hU⟩ ⟨Bx, hBx, RX, rfl⟩ hlt
    have hx := x.isLt
    obtain ⟨bb, oo, rfl, hbb, hcc⟩ := hc.out (by omega)
    have hxn : (x.val : Int) < (s.n : Int) := by omega
    have hBxl := RX.lt
    have nBx : vv.ownBlock ≠ some Bx := fun e => by
      rcases hBu with ⟨h, _⟩ | ⟨g, cp, cur, fz, h, hg, _⟩
      · rw [h] at e; cases e
      · rw [h] at e
        have e' : g = Bx := Option.some.inj e
        subst e'
        obtain ⟨cur', h68, _⟩ := RX
        rw [hg] at h68
        cases h68
    have bwW := bw'.trans (hB.mono (by omega))
    have hk : Hid (∀ z : World, (∀ c, c < W.heap.size → c ≠ y.heap.size + 1 → vv.ownBlock ≠ some c → z.heap[c]? = W.heap[c]?) → (z.cell? ⟨y.heap.size + 2, 0, none⟩ = some (.pointer (some ⟨y.heap.size + 1, 0, none⟩)) ∧ z.cell? ⟨w.heap.size, 0, none⟩ = some (.slice (some ⟨bb, oo, none⟩) s.n cap) ∧ z.cell? ⟨Bx, 0, none⟩ = some (.int .i64 (x.val : Int)) ∧ z.cell? ⟨bb, oo + x.val * 10, none⟩ = some (.int .i64 (s.f x.val).params) ∧ z.cell? ⟨bb, oo + x.val * 10 + 1, none⟩ = some (.bool (s.f x.val).vararg) ∧ z.cell? ⟨bb, oo + x.val * 10 + 2, none⟩ = some (.int .i64 (s.f x.val).regs) ∧ z.cell? ⟨bb, oo + x.val * 10 + 3, none⟩ = some ((a3 x.val)) ∧ z.cell? ⟨bb, oo + x.val * 10 + 4, none⟩ = some ((a4 x.val)) ∧ z.cell? ⟨bb, oo + x.val * 10 + 5, none⟩ = some ((a5 x.val)) ∧ z.cell? ⟨bb, oo + x.val * 10 + 6, none⟩ = some (.int .i64 (s.f x.val).kids) ∧ z.cell? ⟨bb, oo + x.val * 10 + 7, none⟩ = some (.string (s.f x.val).name) ∧ z.cell? ⟨bb, oo + x.val * 10 + 8, none⟩ = some ((a8 x.val)) ∧ z.cell? ⟨bb, oo + x.val * 10 + 9, none⟩ = some ((a9 x.val)))) := fun z hz => by
      have hQz : z.heap[y.heap.size + 2]? = W.heap[y.heap.size + 2]? := hz _ hQ.lt (by omega) hneQ
      have hw : z.heap[w.heap.size]? = W.heap[w.heap.size]? := hz _ (by omega) (by omega) (fun e => by have := (hrg _ e).1; omega)
      have hxz : z.heap[Bx]? = W.heap[Bx]? := hz _ hBxl (by omega) nBx
      have hbz : z.heap[bb]? = W.heap[bb]? := hz _ (by omega) (by omega) (fun e => by have := (hrg _ e).1; omega)
      have hel : ∀ j, j < 10 → z.cell? ⟨bb, oo + x.val * 10 + j, none⟩ = some (pC s.f a3 a4 a5 a8 a9 x.val j) := fun j hj =>
        (World.cell?_of_block (a := ⟨bb, oo + x.val * 10 + j, none⟩) hbz).trans ((bwW.cell (p := ⟨bb, _, none⟩) hbb).trans (hcc x.val x.isLt j hj))
      exact ⟨(World.cell?_of_block (a := ⟨y.heap.size + 2, 0, none⟩) hQz).trans (hQ.cell 0 rfl), (World.cell?_of_block (a := ⟨w.heap.size, 0, none⟩) hw).trans ((R0'.below hB (by omega)).cell 0 rfl), (World.cell?_of_block (a := ⟨Bx, 0, none⟩) hxz).trans (RX.cell 0 rfl), hel 0 (by omega), hel 1 (by omega), hel 2 (by omega), hel 3 (by omega), hel 4 (by omega), hel 5 (by omega), hel 6 (by omega), hel 7 (by omega), hel 8 (by omega), hel 9 (by omega)⟩
    have hdr : Below W.heap.size W W.drew := (Below.refl _ _).drew
    have hds : W.drew.heap.size = W.heap.size := rfl
    have hWt : Wt (y.heap.size + 1) W vv W vv (headB ++ bytesL s pre) := ⟨hP, hBu, hneP, Fr.refl _ _ _⟩
    obtain ⟨Wd, hWd⟩ : ∃ z, z = W.drew := ⟨_, rfl⟩
    have hWtd : Wt (y.heap.size + 1) Wd vv Wd vv (headB ++ bytesL s pre) := by rw [hWd]; exact hWt.drew.fresh
    rw [← hWd] at hdr hds
    have hpr : Hid (Calls Try.prog 16 #[.pointer (some ⟨y.heap.size + 1, 0, none⟩), pAgg (s.f x.val) (a3 x.val) (a4 x.val) (a5 x.val) (a8 x.val) (a9 x.val)] Wd fun e w' => (∃ v', e = .returned (.tuple #[]) ∧ Wt (y.heap.size + 1) Wd vv w' v' (headB ++ bytesL s pre ++ protoB (s.f x.val)))) :=
      wProto_in (y.heap.size + 1) w.heap.size (s.f x.val) (a3 x.val) (a4 x.val) (a5 x.val) (a8 x.val) (a9 x.val) Wd vv Wd vv _ hWtd ((ht.out x.val x.isLt).below (bwW.trans (hdr.mono (by omega)))) (pw_of hwf.out hbd.out x.val x.isLt) (by omega) (by omega) (fun k hk => by have := (hrg k hk).1; omega) (by
        have hpl : (bytesL s pre).size + (protoB (s.f x.val)).size ≤ 70368744177664 - 6 := by
          have h1 := bytesL_size hwf.out pre
          have h2 := protoB_size _ (hwf.out.each x.val x.isLt)
          omega
        rw [ByteArray.size_append]
        have : headB.size = 6 := rfl
        omega)
    have hstep : Hid (∀ W' v', Wt (y.heap.size + 1) Wd vv W' v' (headB ++ bytesL s pre ++ protoB (s.f x.val)) → ∃ U', GrowU U U' W W' ∧ DI s (y.heap.size + 1) (y.heap.size + 2) y.heap.size w0.heap.size w0 (pre ++ [x]) U' W') := fun W' v' hT =>
      DI.step hB (by omega) (by omega) (by omega) hQ hneQ hrg hU (by omega) hdr hds hT
    have hkW : Hid (∀ z v', Fr (fun k => k = y.heap.size + 1) Wd vv z v' → (z.cell? ⟨y.heap.size + 2, 0, none⟩ = some (.pointer (some ⟨y.heap.size + 1, 0, none⟩)) ∧ z.cell? ⟨w.heap.size, 0, none⟩ = some (.slice (some ⟨bb, oo, none⟩) s.n cap) ∧ z.cell? ⟨Bx, 0, none⟩ = some (.int .i64 (x.val : Int)) ∧ z.cell? ⟨bb, oo + x.val * 10, none⟩ = some (.int .i64 (s.f x.val).params) ∧ z.cell? ⟨bb, oo + x.val * 10 + 1, none⟩ = some (.bool (s.f x.val).vararg) ∧ z.cell? ⟨bb, oo + x.val * 10 + 2, none⟩ = some (.int .i64 (s.f x.val).regs) ∧ z.cell? ⟨bb, oo + x.val * 10 + 3, none⟩ = some ((a3 x.val)) ∧ z.cell? ⟨bb, oo + x.val * 10 + 4, none⟩ = some ((a4 x.val)) ∧ z.cell? ⟨bb, oo + x.val * 10 + 5, none⟩ = some ((a5 x.val)) ∧ z.cell? ⟨bb, oo + x.val * 10 + 6, none⟩ = some (.int .i64 (s.f x.val).kids) ∧ z.cell? ⟨bb, oo + x.val * 10 + 7, none⟩ = some (.string (s.f x.val).name) ∧ z.cell? ⟨bb, oo + x.val * 10 + 8, none⟩ = some ((a8 x.val)) ∧ z.cell? ⟨bb, oo + x.val * 10 + 9, none⟩ = some ((a9 x.val)))) := fun z v' hf => hk.out z fun c h1 h2 h3 => (hf.block c (by omega) h2 h3).trans (hdr.block c h1)
    unfold pAgg at hpr
    clear hcc R0' RP RQ RN RX hkids hv' hc ht hk hWt hWtd hBu hP hQ hU bwW
    gi_wp2_with fail
    refine region_round (S := fun z => z.cell? ⟨y.heap.size + 2, 0, none⟩ = some (.pointer (some ⟨y.heap.size + 1, 0, none⟩)) ∧ z.cell? ⟨w.heap.size, 0, none⟩ = some (.slice (some ⟨bb, oo, none⟩) s.n cap) ∧ z.cell? ⟨Bx, 0, none⟩ = some (.int .i64 (x.val : Int)) ∧ z.cell? ⟨bb, oo + x.val * 10, none⟩ = some (.int .i64 (s.f x.val).params) ∧ z.cell? ⟨bb, oo + x.val * 10 + 1, none⟩ = some (.bool (s.f x.val).vararg) ∧ z.cell? ⟨bb, oo + x.val * 10 + 2, none⟩ = some (.int .i64 (s.f x.val).regs) ∧ z.cell? ⟨bb, oo + x.val * 10 + 3, none⟩ = some ((a3 x.val)) ∧ z.cell? ⟨bb, oo + x.val * 10 + 4, none⟩ = some ((a4 x.val)) ∧ z.cell? ⟨bb, oo + x.val * 10 + 5, none⟩ = some ((a5 x.val)) ∧ z.cell? ⟨bb, oo + x.val * 10 + 6, none⟩ = some (.int .i64 (s.f x.val).kids) ∧ z.cell? ⟨bb, oo + x.val * 10 + 7, none⟩ = some (.string (s.f x.val).name) ∧ z.cell? ⟨bb, oo + x.val * 10 + 8, none⟩ = some ((a8 x.val)) ∧ z.cell? ⟨bb, oo + x.val * 10 + 9, none⟩ = some ((a9 x.val))) (by kernel_rfl) (noDefer_of (by kernel_rfl)) (fun ⟨_, _, h⟩ => h) (hWd ▸ hkW.out Wd vv (Fr.refl _ _ _)) (fun hHeld => ?_)
    rw [← hWd] at hHeld ⊢
    clear hWd
    refine take_dst 0 17 (.pointer (some ⟨y.heap.size + 1, 0, none⟩)) rfl (by kernel_rfl) (by kernel_rfl) (by kernel_rfl) (fun _ _ _ h => h) (Or.inl ⟨by rfl, by intro wv hSv; (try dsimp only at hSv); go_simp⟩) hHeld rfl ?_
    try simp only [Act.put, List.setIfInBounds_toArray, List.set_cons_zero, List.set_cons_succ]
    refine take_dst 1 18 (.pointer (some ⟨w.heap.size, 0, none⟩)) rfl (by kernel_rfl) (by kernel_rfl) (by kernel_rfl) (fun _ _ _ h => h) (Or.inl ⟨by rfl, by intro wv hSv; (try dsimp only at hSv); go_simp⟩) hHeld rfl ?_
    try simp only [Act.put, List.setIfInBounds_toArray, List.set_cons_zero, List.set_cons_succ]
    refine take_dst 2 19 (.slice (some ⟨bb, oo, none⟩) s.n cap) rfl (by kernel_rfl) (by kernel_rfl) (by kernel_rfl) (fun _ _ _ h => h) (Or.inl ⟨by rfl, by intro wv hSv; (try dsimp only at hSv); go_simp⟩) hHeld rfl ?_
    try simp only [Act.put, List.setIfInBounds_toArray, List.set_cons_zero, List.set_cons_succ]
    refine take_dst 3 20 (.pointer (some ⟨Bx, 0, none⟩)) rfl (by kernel_rfl) (by kernel_rfl) (by kernel_rfl) (fun _ _ _ h => h) (Or.inl ⟨by rfl, by intro wv hSv; (try dsimp only at hSv); go_simp⟩) hHeld rfl ?_
    try simp only [Act.put, List.setIfInBounds_toArray, List.set_cons_zero, List.set_cons_succ]
    refine take_dst 4 21 (.int .i64 (x.val : Int)) rfl (by kernel_rfl) (by kernel_rfl) (by kernel_rfl) (fun _ _ _ h => h) (Or.inl ⟨by rfl, by intro wv hSv; (try dsimp only at hSv); go_simp⟩) hHeld rfl ?_
    try simp only [Act.put, List.setIfInBounds_toArray, List.set_cons_zero, List.set_cons_succ]
    refine take_dst 5 22 (.pointer (some ⟨bb, oo + x.val * 10, none⟩)) rfl (by kernel_rfl) (by kernel_rfl) (by kernel_rfl) (fun _ _ _ h => h) (Or.inl ⟨by rfl, by intro wv hSv; (try dsimp only at hSv); go_simp⟩) hHeld rfl ?_
    try simp only [Act.put, List.setIfInBounds_toArray, List.set_cons_zero, List.set_cons_succ]
    refine take_dst 6 23 (.agg #[.int .i64 (s.f x.val).params, .bool (s.f x.val).vararg, .int .i64 (s.f x.val).regs, (a3 x.val), (a4 x.val), (a5 x.val), .int .i64 (s.f x.val).kids, .string (s.f x.val).name, (a8 x.val), (a9 x.val)]) rfl (by kernel_rfl) (by kernel_rfl) (by kernel_rfl) (fun _ _ _ h => h) (Or.inl ⟨by rfl, by intro wv hSv; (try dsimp only at hSv); go_simp⟩) hHeld rfl ?_
    try simp only [Act.put, List.setIfInBounds_toArray, List.set_cons_zero, List.set_cons_succ]
    refine wpAnyH_ready (rs := [7]) (by kernel_rfl) (by simp) ?_
    refine AllReadyH.cons rfl (fun K hK => ?_) AllReadyH.nil
    go_simp
    refine (Calls.mono hpr.out ?_)
    rintro e z1 ⟨v1, rfl, hT⟩
    go_wp2_with fail
    refine hK.out _ _ (hkW.out z1 v1 hT.fr) (fun _ => ?_)
    clear hK K
    try simp only [Act.put, List.setIfInBounds_toArray, List.set_cons_zero, List.set_cons_succ]
    refine wpAnyH_done (by kernel_rfl) ?_ _
    exact hstep.out z1 v1 hT
  case stop =>
    rintro D c pre U W hD hpre h hK
    exact h.elim
  case done =>
    rintro D ys U W hD rfl hI hK
    have hseq : nodeSeq (kidsOf s) s.n = List.finRange s.n := if_pos (wf_tree hwf.out)
    rw [hseq] at hI
    obtain ⟨hB, vv, hP, hQ, hBu, hneP, hneQ, hrg, hU⟩ := hI
    rw [bytesL_all] at hBu
    obtain ⟨av, cv, rfl⟩ := hBu.form
    have qP := hP.cell 0 rfl
    have qQ := hQ.cell 0 rfl
    have hcv : (convert 36 9 (.slice av (chunkB s).size cv)).run Try.prog W = .ok (.string (chunkB s)) W := conv_buf _ _ _ Try.underlying36 Try.underlying5 Try.underlying9 hBu
    have hbel : Hid (Below w.heap.size w W) := bw'.trans (hB.mono (by omega))
    clear hBu hP hQ hU hrg hneP hneQ hseq R0' RP RQ RN hkids hv' hc ht hB hbf
    generalize (chunkB s).size = nn at qP hcv
    gi_wp2
    refine ⟨by simp, .inl ⟨_, _, rfl, run_takeDeferred hK, ?_⟩⟩
    refine ⟨.tuple #[.string (chunkB s), .bool true], by simp [results, Try.results7, go_sem], .inl ⟨hwf.out, rfl⟩, ?_⟩
    exact hbel.out.trans (below_putObj _ (by omega) (Array.getElem?_eq_some_iff.1 hK).1 _)
end Go.Proofs.Ytcbifllencnbaaa
